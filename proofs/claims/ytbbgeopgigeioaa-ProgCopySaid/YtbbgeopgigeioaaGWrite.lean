/-
  A program whose blocks may be written, and stay what they are: for the law ProgCopy.
-/
import Derived.Test.YtbbgeopgigeioaaGCopyAll
namespace Go.Proofs.Ytbbgeopgigeioaa
open Go.RowKit

/-- The slice v of n things of s cells each may be written: its cells lie in a block of their type, from lo on, below hi. -/
def Wrt (lo hi : Nat) (W : World) (e : TypeId) (s : Nat) (v : Value) (n : Nat) : Prop :=
  ∃ a c, v = .slice a n c ∧ n ≤ 1000000 ∧ (n = 0 ∨ ∃ g cur, a = some ⟨g, 0, none⟩ ∧ lo ≤ g ∧ g < hi ∧ W.heap[g]? = some (.cells cur e (0, 0)) ∧ n * s ≤ cur.size)
def WCodes (lo hi : Nat) (W : World) (v : Value) (n : Nat) : Prop :=
  ∃ a c, v = .slice a n c ∧ n ≤ 1000000 ∧ (n = 0 ∨ ∃ g cur, a = some ⟨g, 0, none⟩ ∧ lo ≤ g ∧ g < hi ∧ W.heap[g]? = some (.cells cur 32 (0, 0)) ∧ ∀ k, k < n → ∃ u m, cur[k]? = some u ∧ Wrt lo hi W 34 5 u m)
def WSites (lo hi : Nat) (W : World) (v : Value) (n : Nat) : Prop :=
  ∃ a c, v = .slice a n c ∧ n ≤ 1000000 ∧ (n = 0 ∨ ∃ g cur, a = some ⟨g, 0, none⟩ ∧ lo ≤ g ∧ g < hi ∧ W.heap[g]? = some (.cells cur 44 (0, 0)) ∧ ∀ k, k < n → ∃ u m b, cur[k * 2]? = some u ∧ cur[k * 2 + 1]? = some (.bool b) ∧ Wrt lo hi W 41 4 u m)
structure Wp (lo hi : Nat) (W : World) (v1 v2 v3 : Value) (n1 n2 n3 : Nat) : Prop where
  caps : Wrt lo hi W 3 1 v1 n1
  codes : WCodes lo hi W v2 n2
  sites : WSites lo hi W v3 n3
/-- Blocks from lo on, below hi, that are no program's own may be written: all else is as it was, and each block has the type and the size that it had. -/
structure Fr (lo hi : Nat) (W W' : World) : Prop where
  os : W'.os = W.os
  tape : W'.tape = W.tape
  output : W'.output = W.output
  size : W'.heap.size = W.heap.size
  block : ∀ k : Nat, k < lo ∨ hi ≤ k → W'.heap[k]? = W.heap[k]?
  prog : ∀ (k : Nat) (cs : Array Value) (z : Nat × Nat), W.heap[k]? = some (.cells cs 26 z) → W'.heap[k]? = W.heap[k]?
  typed : ∀ (k : Nat) (cs : Array Value) (e : TypeId) (z : Nat × Nat), W.heap[k]? = some (.cells cs e z) → ∃ cs' : Array Value, W'.heap[k]? = some (.cells cs' e z) ∧ cs'.size = cs.size

section
variable {lo hi : Nat} {W W' W'' : World} {v v1 v2 v3 u : Value} {n s j g n1 n2 n3 : Nat} {e : TypeId} {cur : Array Value}
theorem Fr.refl (lo hi : Nat) (W : World) : Fr lo hi W W := ⟨rfl, rfl, rfl, rfl, fun _ _ => rfl, fun _ _ _ _ => rfl, fun _ cs _ _ h => ⟨cs, h, rfl⟩⟩
theorem Fr.trans (h : Fr lo hi W W') (k : Fr lo hi W' W'') : Fr lo hi W W'' :=
  ⟨k.os.trans h.os, k.tape.trans h.tape, k.output.trans h.output, k.size.trans h.size, fun i hi => (k.block i hi).trans (h.block i hi),
   fun i cs z hi => (k.prog i cs z ((h.prog i cs z hi).trans hi)).trans (h.prog i cs z hi),
   fun i cs e z hi => by obtain ⟨c1, h1, e1⟩ := h.typed i cs e z hi; obtain ⟨c2, h2, e2⟩ := k.typed i c1 e z h1; exact ⟨c2, h2, e2.trans e1⟩⟩
theorem Fr.set (hg : W.heap[g]? = some (.cells cur e (0, 0))) (hl : lo ≤ g) (hh : g < hi) (he : e ≠ 26) (j : Nat) (u : Value) : Fr lo hi W (W.setCell ⟨g, j, none⟩ u) :=
  ⟨rfl, rfl, rfl, by simp [World.setCell], fun k hk => Below.heap_setCell W ⟨g, j, none⟩ u k (by simp only; omega),
   fun k cs z hk => Below.heap_setCell W ⟨g, j, none⟩ u k (by
     rintro rfl
     rw [hg] at hk
     simp only [Option.some.injEq, Obj.cells.injEq] at hk
     exact he hk.2.1),
   fun k cs e' z hk => by
     by_cases ek : k = g
     · subst ek
       rw [hg] at hk
       simp only [Option.some.injEq, Obj.cells.injEq] at hk
       obtain ⟨rfl, rfl, rfl⟩ := hk
       exact ⟨_, heap_set_same u hg, by simp⟩
     · exact ⟨cs, (Below.heap_setCell W ⟨g, j, none⟩ u k ek).trans hk, rfl⟩⟩
theorem Fr.below (h : Fr lo hi W W') : Below lo W W' := ⟨h.os, h.tape, h.output, by rw [h.size]; exact Nat.le_refl _, fun k hk => h.block k (.inl hk)⟩
theorem Fr.blk {B : Nat} {cs : Array Value} (h : Fr lo hi W W') (hb : Blk W B 26 cs) : Blk W' B 26 cs := (h.prog B _ _ hb).trans hb
theorem Wrt.slice (h : Wrt lo hi W e s v n) : ∃ a c, v = .slice a n c := by obtain ⟨a, c, h, _⟩ := h; exact ⟨a, c, h⟩
theorem WCodes.slice (h : WCodes lo hi W v n) : ∃ a c, v = .slice a n c := by obtain ⟨a, c, h, _⟩ := h; exact ⟨a, c, h⟩
theorem WSites.slice (h : WSites lo hi W v n) : ∃ a c, v = .slice a n c := by obtain ⟨a, c, h, _⟩ := h; exact ⟨a, c, h⟩
theorem Wrt.fr (h : Wrt lo hi W e s v n) (hf : Fr lo hi W W') : Wrt lo hi W' e s v n := by
  obtain ⟨a, c, h1, h2, h3⟩ := h
  refine ⟨a, c, h1, h2, ?_⟩
  rcases h3 with h3 | ⟨g, cur, h4, h5, h6, h7, h8⟩
  · exact .inl h3
  · obtain ⟨cs', k1, k2⟩ := hf.typed g _ _ _ h7
    exact .inr ⟨g, cs', h4, h5, h6, k1, by omega⟩
/-- What is written lies in a block of another type. -/
theorem WCodes.fr (h : WCodes lo hi W v n) (hf : Fr lo hi W W') (hk : ∀ (k : Nat) (cs : Array Value), W.heap[k]? = some (.cells cs 32 (0, 0)) → W'.heap[k]? = W.heap[k]?) : WCodes lo hi W' v n := by
  obtain ⟨a, c, h1, h2, h3⟩ := h
  refine ⟨a, c, h1, h2, ?_⟩
  rcases h3 with h3 | ⟨g, cur, h4, h5, h6, h7, h8⟩
  · exact .inl h3
  · exact .inr ⟨g, cur, h4, h5, h6, (hk _ _ h7).trans h7, fun k hk => by obtain ⟨u, m, e1, e2⟩ := h8 k hk; exact ⟨u, m, e1, e2.fr hf⟩⟩
theorem WSites.fr (h : WSites lo hi W v n) (hf : Fr lo hi W W') (hk : ∀ (k : Nat) (cs : Array Value), W.heap[k]? = some (.cells cs 44 (0, 0)) → W'.heap[k]? = W.heap[k]?) : WSites lo hi W' v n := by
  obtain ⟨a, c, h1, h2, h3⟩ := h
  refine ⟨a, c, h1, h2, ?_⟩
  rcases h3 with h3 | ⟨g, cur, h4, h5, h6, h7, h8⟩
  · exact .inl h3
  · exact .inr ⟨g, cur, h4, h5, h6, (hk _ _ h7).trans h7, fun k hk => by obtain ⟨u, m, b, e1, e2, e3⟩ := h8 k hk; exact ⟨u, m, b, e1, e2, e3.fr hf⟩⟩
theorem set_other {e e' : TypeId} (hg : W.heap[g]? = some (.cells cur e (0, 0))) (he : e ≠ e') (j : Nat) (u : Value) (k : Nat) (cs : Array Value) (hk : W.heap[k]? = some (.cells cs e' (0, 0))) : (W.setCell ⟨g, j, none⟩ u).heap[k]? = W.heap[k]? :=
  Below.heap_setCell W ⟨g, j, none⟩ u k (by
    rintro rfl
    rw [hg] at hk
    simp only [Option.some.injEq, Obj.cells.injEq] at hk
    exact he hk.2.1)
/-- A store into a block of numbers, instructions or cases. -/
theorem Wp.set (h : Wp lo hi W v1 v2 v3 n1 n2 n3) (hg : W.heap[g]? = some (.cells cur e (0, 0))) (hl : lo ≤ g) (hh : g < hi) (h1 : e ≠ 26) (h2 : e ≠ 32) (h3 : e ≠ 44) (j : Nat) (u : Value) :
    Wp lo hi (W.setCell ⟨g, j, none⟩ u) v1 v2 v3 n1 n2 n3 :=
  ⟨h.caps.fr (Fr.set hg hl hh h1 j u), h.codes.fr (Fr.set hg hl hh h1 j u) (set_other hg h2 j u), h.sites.fr (Fr.set hg hl hh h1 j u) (set_other hg h3 j u)⟩
/-- A code that is no more. -/
theorem Wp.gone {a : Option Addr} {c : Nat} (h : Wp lo hi W v1 (.slice a n2 c) v3 n1 n2 n3) (ha : a = some ⟨g, 0, none⟩) (hg : W.heap[g]? = some (.cells cur 32 (0, 0))) (hl : lo ≤ g) (hh : g < hi) (j : Nat) :
    Wp lo hi (W.setCell ⟨g, j, none⟩ (.slice none 0 0)) v1 (.slice a n2 c) v3 n1 n2 n3 := by
  have hf : Fr lo hi W (W.setCell ⟨g, j, none⟩ (.slice none 0 0)) := Fr.set hg hl hh (by decide) j _
  refine ⟨h.caps.fr hf, ?_, h.sites.fr hf (set_other hg (by decide) j _)⟩
  obtain ⟨a', c', e1, k2, k3⟩ := h.codes
  refine ⟨a', c', e1, k2, ?_⟩
  rcases k3 with k3 | ⟨g', cur', k4, k5, k6, k7, k8⟩
  · exact .inl k3
  · simp only [Value.slice.injEq] at e1
    obtain ⟨rfl, -, rfl⟩ := e1
    rw [ha] at k4
    simp only [Option.some.injEq, Addr.mk.injEq, and_true] at k4
    subst k4
    rw [hg] at k7
    simp only [Option.some.injEq, Obj.cells.injEq, and_true] at k7
    subst k7
    refine .inr ⟨g, _, ha, k5, k6, heap_set_same _ hg, fun k hk => ?_⟩
    obtain ⟨u, m, q1, q2⟩ := k8 k hk
    by_cases ek : k = j
    · subst ek
      refine ⟨.slice none 0 0, 0, ?_, ⟨none, 0, rfl, by omega, .inl rfl⟩⟩
      have := (Array.getElem?_eq_some_iff.1 q1).1
      simp [this]
    · exact ⟨u, m, by rw [Array.getElem?_setIfInBounds_ne (Ne.symm ek)]; exact q1, q2.fr hf⟩
theorem Wrt.kept (h : Wrt lo hi W e s v n) (he : e ≠ 26) (hk : ∀ (j : Nat) (cs : Array Value) (t : TypeId) (z : Nat × Nat), j < hi → t ≠ 26 → W.heap[j]? = some (.cells cs t z) → W'.heap[j]? = W.heap[j]?) : Wrt lo hi W' e s v n := by
  obtain ⟨a, c, h1, h2, h3⟩ := h
  refine ⟨a, c, h1, h2, ?_⟩
  rcases h3 with h3 | ⟨g, cur, h4, h5, h6, h7, h8⟩
  · exact .inl h3
  · exact .inr ⟨g, cur, h4, h5, h6, (hk _ _ _ _ h6 he h7).trans h7, h8⟩
theorem Wp.kept (h : Wp lo hi W v1 v2 v3 n1 n2 n3) (hk : ∀ (j : Nat) (cs : Array Value) (t : TypeId) (z : Nat × Nat), j < hi → t ≠ 26 → W.heap[j]? = some (.cells cs t z) → W'.heap[j]? = W.heap[j]?) : Wp lo hi W' v1 v2 v3 n1 n2 n3 := by
  refine ⟨h.caps.kept (by decide) hk, ?_, ?_⟩
  · obtain ⟨a, c, h1, h2, h3⟩ := h.codes
    refine ⟨a, c, h1, h2, ?_⟩
    rcases h3 with h3 | ⟨g, cur, h4, h5, h6, h7, h8⟩
    · exact .inl h3
    · exact .inr ⟨g, cur, h4, h5, h6, (hk _ _ _ _ h6 (by decide) h7).trans h7, fun k hkn => by obtain ⟨u, m, e1, e2⟩ := h8 k hkn; exact ⟨u, m, e1, e2.kept (by decide) hk⟩⟩
  · obtain ⟨a, c, h1, h2, h3⟩ := h.sites
    refine ⟨a, c, h1, h2, ?_⟩
    rcases h3 with h3 | ⟨g, cur, h4, h5, h6, h7, h8⟩
    · exact .inl h3
    · exact .inr ⟨g, cur, h4, h5, h6, (hk _ _ _ _ h6 (by decide) h7).trans h7, fun k hkn => by obtain ⟨u, m, b, e1, e2, e3⟩ := h8 k hkn; exact ⟨u, m, b, e1, e2, e3.kept (by decide) hk⟩⟩
theorem Wrt.of_owns {xs : List Value} (h : W.ownsRow lo e s v n xs) (hn : n ≤ 1000000) : Wrt lo W.heap.size W e s v n := by
  rcases h.2 with ⟨rfl, rfl⟩ | ⟨g, cap, cur, rfl, h1, hg, h2, _, h3, _⟩
  · exact ⟨none, 0, rfl, hn, .inl rfl⟩
  · exact ⟨_, cap, rfl, hn, .inr ⟨g, cur, rfl, h1, (Array.getElem?_eq_some_iff.1 hg).1, hg, by rw [h3]; exact Nat.mul_le_mul_right _ h2⟩⟩
theorem own_cell {xs : List Value} {k : Nat} (hk : k < n * s) (ht : cur.toList.take (n * s) = xs) : cur[k]? = xs[k]? := by
  rw [← ht, List.getElem?_take, if_pos hk]; simp
theorem OwnPrg.wp {p : Prg} (h : OwnPrg lo W v1 v2 v3 p) (hs : Small p) : Wp lo W.heap.size W v1 v2 v3 p.caps.length p.codes.length p.sites.length := by
  refine ⟨.of_owns h.caps hs.caps, ?_, ?_⟩
  · obtain ⟨us, ⟨hl, h1⟩, h2⟩ := h.codes
    rcases h1 with ⟨rfl, h0⟩ | ⟨g, cap, cur, rfl, k1, k2, k3, k4, k5, k6⟩
    · exact ⟨none, 0, by rw [h0], hs.codes, .inl h0⟩
    · refine ⟨_, cap, rfl, hs.codes, .inr ⟨g, cur, rfl, k1, (Array.getElem?_eq_some_iff.1 k2).1, k2, fun k hk => ?_⟩⟩
      have hku : k < us.length := by omega
      have e1 : cur[k]? = some us[k] := by rw [own_cell (by omega) k6, List.getElem?_eq_getElem hku]
      exact ⟨us[k], _, e1, .of_owns (h2 k _ _ (List.getElem?_eq_getElem hku) (List.getElem?_eq_getElem hk)) (hs.code _ (List.getElem_mem hk))⟩
  · obtain ⟨xs, ⟨hl, h1⟩, h2⟩ := h.sites
    rcases h1 with ⟨rfl, h0⟩ | ⟨g, cap, cur, rfl, k1, k2, k3, k4, k5, k6⟩
    · exact ⟨none, 0, by rw [h0], hs.sites, .inl h0⟩
    · refine ⟨_, cap, rfl, hs.sites, .inr ⟨g, cur, rfl, k1, (Array.getElem?_eq_some_iff.1 k2).1, k2, fun k hk => ?_⟩⟩
      obtain ⟨u, e1, e2, e3⟩ := h2 k _ (List.getElem?_eq_getElem hk)
      exact ⟨u, _, _, by rw [own_cell (by omega) k6]; exact e1, by rw [own_cell (by omega) k6]; exact e2, .of_owns e3 (hs.site _ (List.getElem_mem hk))⟩
/-- What is not the first copy's stays. -/
theorem OwnPrg.fr {p : Prg} (h : OwnPrg hi W v1 v2 v3 p) (hf : Fr lo hi W W') : OwnPrg hi W' v1 v2 v3 p := by
  refine ⟨owns_keep h.caps fun j _ _ hj _ => hf.block j (.inr hj), ?_, ?_⟩
  · obtain ⟨us, h1, h2⟩ := h.codes
    exact ⟨us, owns_keep h1 fun j _ _ hj _ => hf.block j (.inr hj), fun k u x hu hx => owns_keep (h2 k u x hu hx) fun j _ _ hj _ => hf.block j (.inr hj)⟩
  · obtain ⟨xs, h1, h2⟩ := h.sites
    exact ⟨xs, owns_keep h1 fun j _ _ hj _ => hf.block j (.inr hj), fun k x hx => by obtain ⟨u, e1, e2, e3⟩ := h2 k x hx; exact ⟨u, e1, e2, owns_keep e3 fun j _ _ hj _ => hf.block j (.inr hj)⟩⟩

/-- A place of a row that may be written. -/
theorem Wrt.at {a : Option Addr} {m c : Nat} (h : Wrt lo hi W e s (.slice a m c) n) (hj : j < n) : m = n ∧ n ≤ 1000000 ∧ ∃ g cur, a = some ⟨g, 0, none⟩ ∧ lo ≤ g ∧ g < hi ∧ W.heap[g]? = some (.cells cur e (0, 0)) ∧ n * s ≤ cur.size := by
  obtain ⟨a', c', h1, h2, h3⟩ := h
  simp only [Value.slice.injEq] at h1
  obtain ⟨rfl, rfl, rfl⟩ := h1
  rcases h3 with h3 | ⟨g, cur, h4⟩
  · omega
  · exact ⟨rfl, h2, g, cur, h4⟩
theorem WCodes.at {a : Option Addr} {m c : Nat} (h : WCodes lo hi W (.slice a m c) n) (hj : j < n) : ∃ g cur ra r rc, a = some ⟨g, 0, none⟩ ∧ lo ≤ g ∧ g < hi ∧ W.heap[g]? = some (.cells cur 32 (0, 0)) ∧ cur[j]? = some (.slice ra r rc) ∧ Wrt lo hi W 34 5 (.slice ra r rc) r := by
  obtain ⟨a', c', h1, h2, h3⟩ := h
  simp only [Value.slice.injEq] at h1
  obtain ⟨rfl, rfl, rfl⟩ := h1
  rcases h3 with h3 | ⟨g, cur, h4, h5, h6, h7, h8⟩
  · omega
  · obtain ⟨u, r, e1, e2⟩ := h8 j hj
    obtain ⟨ra, rc, rfl⟩ := e2.slice
    exact ⟨g, cur, ra, r, rc, h4, h5, h6, h7, e1, e2⟩
theorem WSites.at {a : Option Addr} {m c : Nat} (h : WSites lo hi W (.slice a m c) n) (hj : j < n) : ∃ g cur ra r rc, a = some ⟨g, 0, none⟩ ∧ lo ≤ g ∧ g < hi ∧ W.heap[g]? = some (.cells cur 44 (0, 0)) ∧ cur[j * 2]? = some (.slice ra r rc) ∧ Wrt lo hi W 41 4 (.slice ra r rc) r := by
  obtain ⟨a', c', h1, h2, h3⟩ := h
  simp only [Value.slice.injEq] at h1
  obtain ⟨rfl, rfl, rfl⟩ := h1
  rcases h3 with h3 | ⟨g, cur, h4, h5, h6, h7, h8⟩
  · omega
  · obtain ⟨u, r, b, e1, -, e2⟩ := h8 j hj
    obtain ⟨ra, rc, rfl⟩ := e2.slice
    exact ⟨g, cur, ra, r, rc, h4, h5, h6, h7, e1, e2⟩
theorem blk_cell (hg : W.heap[g]? = some (.cells cur e (0, 0))) (hj : j < cur.size) : ∃ x, W.cell? ⟨g, j, none⟩ = some x := ⟨cur[j], Blk.cell (W := W) hg (Array.getElem?_eq_getElem hj)⟩
theorem blk_same (hg : W.heap[g]? = some (.cells cur e (0, 0))) (hf : Fr lo hi W W') : ∃ cs', W'.heap[g]? = some (.cells cs' e (0, 0)) ∧ cs'.size = cur.size := hf.typed g _ _ _ hg
/-- An instruction that is written. -/
theorem Wp.set5 (h : Wp lo hi W v1 v2 v3 n1 n2 n3) (hg : W.heap[g]? = some (.cells cur 34 (0, 0))) (hl : lo ≤ g) (hh : g < hi) (j : Nat) (x0 x1 x2 x3 x4 : Value) {W' : World}
    (hW : W' = ((((W.setCell ⟨g, j, none⟩ x0).setCell ⟨g, j + 1, none⟩ x1).setCell ⟨g, j + 2, none⟩ x2).setCell ⟨g, j + 3, none⟩ x3).setCell ⟨g, j + 4, none⟩ x4) :
    Wp lo hi W' v1 v2 v3 n1 n2 n3 ∧ Fr lo hi W W' ∧ ∀ (k : Nat) (cs : Array Value), W.heap[k]? = some (.cells cs 32 (0, 0)) → W'.heap[k]? = W.heap[k]? := by
  subst hW
  have g1 := heap_set_same (k := j) x0 hg
  have g2 := heap_set_same (k := j + 1) x1 g1
  have g3 := heap_set_same (k := j + 2) x2 g2
  have g4 := heap_set_same (k := j + 3) x3 g3
  refine ⟨((((h.set hg hl hh (by decide) (by decide) (by decide) _ _).set g1 hl hh (by decide) (by decide) (by decide) _ _).set g2 hl hh (by decide) (by decide) (by decide) _ _).set g3 hl hh (by decide) (by decide) (by decide) _ _).set g4 hl hh (by decide) (by decide) (by decide) _ _,
    ((((Fr.set hg hl hh (by decide) _ _).trans (Fr.set g1 hl hh (by decide) _ _)).trans (Fr.set g2 hl hh (by decide) _ _)).trans (Fr.set g3 hl hh (by decide) _ _)).trans (Fr.set g4 hl hh (by decide) _ _), fun k cs hk => ?_⟩
  have q0 := set_other hg (by decide) j x0 k cs hk
  have q1 := set_other g1 (by decide) (j + 1) x1 k cs (q0.trans hk)
  have q2 := set_other g2 (by decide) (j + 2) x2 k cs ((q1.trans q0).trans hk)
  have q3 := set_other g3 (by decide) (j + 3) x3 k cs ((q2.trans (q1.trans q0)).trans hk)
  have q4 := set_other g4 (by decide) (j + 4) x4 k cs ((q3.trans (q2.trans (q1.trans q0))).trans hk)
  exact q4.trans (q3.trans (q2.trans (q1.trans q0)))
/-- A case that is written. -/
theorem Wp.set4 (h : Wp lo hi W v1 v2 v3 n1 n2 n3) (hg : W.heap[g]? = some (.cells cur 41 (0, 0))) (hl : lo ≤ g) (hh : g < hi) (j : Nat) (x0 x1 x2 x3 : Value) {W' : World}
    (hW : W' = (((W.setCell ⟨g, j, none⟩ x0).setCell ⟨g, j + 1, none⟩ x1).setCell ⟨g, j + 2, none⟩ x2).setCell ⟨g, j + 3, none⟩ x3) :
    Wp lo hi W' v1 v2 v3 n1 n2 n3 ∧ Fr lo hi W W' ∧ ∀ (k : Nat) (cs : Array Value), W.heap[k]? = some (.cells cs 44 (0, 0)) → W'.heap[k]? = W.heap[k]? := by
  subst hW
  have g1 := heap_set_same (k := j) x0 hg
  have g2 := heap_set_same (k := j + 1) x1 g1
  have g3 := heap_set_same (k := j + 2) x2 g2
  refine ⟨(((h.set hg hl hh (by decide) (by decide) (by decide) _ _).set g1 hl hh (by decide) (by decide) (by decide) _ _).set g2 hl hh (by decide) (by decide) (by decide) _ _).set g3 hl hh (by decide) (by decide) (by decide) _ _,
    (((Fr.set hg hl hh (by decide) _ _).trans (Fr.set g1 hl hh (by decide) _ _)).trans (Fr.set g2 hl hh (by decide) _ _)).trans (Fr.set g3 hl hh (by decide) _ _), fun k cs hk => ?_⟩
  have q0 := set_other hg (by decide) j x0 k cs hk
  have q1 := set_other g1 (by decide) (j + 1) x1 k cs (q0.trans hk)
  have q2 := set_other g2 (by decide) (j + 2) x2 k cs ((q1.trans q0).trans hk)
  have q3 := set_other g3 (by decide) (j + 3) x3 k cs ((q2.trans (q1.trans q0)).trans hk)
  exact q3.trans (q2.trans (q1.trans q0))
end
end Go.Proofs.Ytbbgeopgigeioaa
