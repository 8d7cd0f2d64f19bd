/-
  Programs; rows in memory: of numbers, instructions, cases, codes and sites; a program as it lies in memory.
-/
import Derived.Laws.AppendOwn
import Derived.Test.YtamkmmpockmpfaaGInsCheck
namespace Go.Proofs.Ytamkmmpockmpfaa
open Go.RowKit

structure Cas where
  s : Bool
  c : Int
  v : Int
  o : Int
structure Cas.ok (x : Cas) : Prop where
  c : I64b x.c
  v : I64b x.v
  o : I64b x.o
structure Sit where
  cs : List Cas
  d : Bool
/-- A program: capacities, codes, sites. -/
structure Prg where
  caps : List Int
  codes : List (List In)
  sites : List Sit
def In.cellsL (x : In) : List Value := [.int .u8 (x.o : Int), .int .i64 x.a, .int .i64 x.b, .int .i64 x.c, .int .i64 x.k]
def Cas.cellsL (x : Cas) : List Value := [.bool x.s, .int .i64 x.c, .int .i64 x.v, .int .i64 x.o]
def Cas.val (x : Cas) : Value := .agg #[.bool x.s, .int .i64 x.c, .int .i64 x.v, .int .i64 x.o]
def I64 (xs : List Int) : List Value := xs.map (Value.int .i64)

theorem flat_len {α : Type} (f : α → List Value) (n : Nat) (hf : ∀ x, (f x).length = n) (l : List α) : (l.flatMap f).length = l.length * n := by
  induction l with
  | nil => simp
  | cons x t ih => simp only [List.flatMap_cons, List.length_append, List.length_cons, hf, ih, Nat.add_mul, Nat.one_mul]; omega
theorem flat_get {α : Type} (f : α → List Value) (n : Nat) (hf : ∀ x, (f x).length = n) (l : List α) (i j : Nat) (hj : j < n) : (l.flatMap f)[i * n + j]? = (l[i]?).bind fun x => (f x)[j]? := by
  induction l generalizing i with
  | nil => simp
  | cons x t ih =>
    rw [List.flatMap_cons]
    cases i with
    | zero => rw [Nat.zero_mul, Nat.zero_add, List.getElem?_append_left (by rw [hf]; exact hj)]; rfl
    | succ i =>
      rw [List.getElem?_append_right (by rw [hf, Nat.add_mul]; omega), hf, show (i + 1) * n + j - n = i * n + j by rw [Nat.add_mul]; omega, ih]
      rfl

/-- The slice v of n things of s cells each: its cells are xs, in a block from lo on, below hi. -/
def Flat (lo hi : Nat) (W : World) (s n : Nat) (v : Value) (xs : List Value) : Prop :=
  xs.length = n * s ∧ ∃ a cap, v = .slice a n cap ∧ (n = 0 ∨ ∃ b off, a = some ⟨b, off, none⟩ ∧ lo ≤ b ∧ b < hi ∧ ∀ j u, xs[j]? = some u → W.cell? ⟨b, off + j, none⟩ = some u)
/-- The blocks from lo on, below hi, stay. -/
def Stay (lo hi : Nat) (W W' : World) : Prop := ∀ b, lo ≤ b → b < hi → W'.heap[b]? = W.heap[b]?
theorem stay_below {lo hi : Nat} {W W' : World} (h : Below hi W W') : Stay lo hi W W' := fun b _ hb => h.block b hb
theorem stay_below' {lo hi n : Nat} {W W' : World} (h : Below n W W') (hn : hi ≤ n) : Stay lo hi W W' := fun b _ hb => h.block b (by omega)
theorem cell_stay {W W' : World} {b k : Nat} {u : Value} (h : W.cell? ⟨b, k, none⟩ = some u) (hb : W'.heap[b]? = W.heap[b]?) : W'.cell? ⟨b, k, none⟩ = some u := by
  rw [← h]; simp [World.cell?, hb]

section
variable {lo hi : Nat} {W W' : World} {s n : Nat} {v : Value} {xs : List Value}
theorem Flat.stay (h : Flat lo hi W s n v xs) (hs : Stay lo hi W W') : Flat lo hi W' s n v xs := by
  obtain ⟨h1, a, cap, h2, h3⟩ := h
  refine ⟨h1, a, cap, h2, ?_⟩
  rcases h3 with h3 | ⟨b, off, e, hl, hh, hc⟩
  · exact .inl h3
  · exact .inr ⟨b, off, e, hl, hh, fun j u hu => cell_stay (hc j u hu) (hs b hl hh)⟩
theorem Flat.wider (h : Flat lo hi W s n v xs) {lo' hi' : Nat} (hl : lo' ≤ lo) (hh : hi ≤ hi') : Flat lo' hi' W s n v xs := by
  obtain ⟨h1, a, cap, h2, h3⟩ := h
  refine ⟨h1, a, cap, h2, ?_⟩
  rcases h3 with h3 | ⟨b, off, e, k1, k2, hc⟩
  · exact .inl h3
  · exact .inr ⟨b, off, e, by omega, by omega, hc⟩
theorem Flat.of_owns {e : TypeId} (h : W.ownsRow lo e s v n xs) : Flat lo W.heap.size W s n v xs := by
  refine ⟨h.1, ?_⟩
  rcases id h.2 with ⟨rfl, rfl⟩ | ⟨g, cap, cur, rfl, h1, hg, _⟩
  · exact ⟨none, 0, rfl, .inl rfl⟩
  · refine ⟨_, cap, rfl, .inr ⟨g, 0, rfl, h1, (Array.getElem?_eq_some_iff.1 hg).1, fun j u hu => ?_⟩⟩
    have := h.cells (g := g) rfl j u hu
    by_cases hj : j = 0
    · subst hj; simpa [Addr.add] using this
    · simpa [Addr.add, hj] using this
theorem Flat.slice (h : Flat lo hi W s n v xs) : ∃ a c, v = .slice a n c := by obtain ⟨_, a, c, h, _⟩ := h; exact ⟨a, c, h⟩
theorem Flat.ad {a : Option Addr} {m c : Nat} (h : Flat lo hi W s n (.slice a m c) xs) (h0 : 0 < n) : ∃ b off, a = some ⟨b, off, none⟩ ∧ lo ≤ b ∧ b < hi ∧ ∀ j u, xs[j]? = some u → W.cell? ⟨b, off + j, none⟩ = some u := by
  obtain ⟨_, a', c', h2, h3⟩ := h
  simp only [Value.slice.injEq] at h2
  obtain ⟨rfl, rfl, rfl⟩ := h2
  rcases h3 with h3 | h3
  · omega
  · exact h3
end

def IntsAt (lo hi : Nat) (W : World) (v : Value) (l : List Int) : Prop := Flat lo hi W 1 l.length v (I64 l) ∧ ∀ x ∈ l, I64b x
def CodeAt (lo hi : Nat) (W : World) (v : Value) (l : List In) : Prop := Flat lo hi W 5 l.length v (l.flatMap In.cellsL) ∧ ∀ x ∈ l, x.ok
def CasesAt (lo hi : Nat) (W : World) (v : Value) (l : List Cas) : Prop := Flat lo hi W 4 l.length v (l.flatMap Cas.cellsL) ∧ ∀ x ∈ l, x.ok
def CodesAt (lo hi : Nat) (W : World) (v : Value) (l : List (List In)) : Prop :=
  ∃ vs : List Value, Flat lo hi W 1 l.length v vs ∧ ∀ (k : Nat) (u : Value) (x : List In), vs[k]? = some u → l[k]? = some x → CodeAt lo hi W u x
def siteCells (vs : List Value) (l : List Sit) : List Value := (vs.zip l).flatMap fun p => [p.1, .bool p.2.d]
def SitesAt (lo hi : Nat) (W : World) (v : Value) (l : List Sit) : Prop :=
  ∃ vs : List Value, vs.length = l.length ∧ Flat lo hi W 2 l.length v (siteCells vs l) ∧ ∀ (k : Nat) (u : Value) (x : Sit), vs[k]? = some u → l[k]? = some x → CasesAt lo hi W u x.cs
structure PrgAt (lo hi : Nat) (W : World) (v1 v2 v3 : Value) (p : Prg) : Prop where
  top : hi ≤ W.heap.size
  caps : IntsAt lo hi W v1 p.caps
  codes : CodesAt lo hi W v2 p.codes
  sites : SitesAt lo hi W v3 p.sites

section
variable {lo hi : Nat} {W W' : World} {v v1 v2 v3 : Value} {a : Option Addr} {n c : Nat}
theorem IntsAt.stay {l : List Int} (h : IntsAt lo hi W v l) (hs : Stay lo hi W W') : IntsAt lo hi W' v l := ⟨h.1.stay hs, h.2⟩
theorem CodeAt.stay {l : List In} (h : CodeAt lo hi W v l) (hs : Stay lo hi W W') : CodeAt lo hi W' v l := ⟨h.1.stay hs, h.2⟩
theorem CasesAt.stay {l : List Cas} (h : CasesAt lo hi W v l) (hs : Stay lo hi W W') : CasesAt lo hi W' v l := ⟨h.1.stay hs, h.2⟩
theorem CodesAt.stay {l : List (List In)} (h : CodesAt lo hi W v l) (hs : Stay lo hi W W') : CodesAt lo hi W' v l := by
  obtain ⟨vs, h1, h2⟩ := h
  exact ⟨vs, h1.stay hs, fun k u c hu hc => (h2 k u c hu hc).stay hs⟩
theorem SitesAt.stay {l : List Sit} (h : SitesAt lo hi W v l) (hs : Stay lo hi W W') : SitesAt lo hi W' v l := by
  obtain ⟨vs, h0, h1, h2⟩ := h
  exact ⟨vs, h0, h1.stay hs, fun k u c hu hc => (h2 k u c hu hc).stay hs⟩
theorem PrgAt.stay {p : Prg} (h : PrgAt lo hi W v1 v2 v3 p) (hs : Stay lo hi W W') (hz : hi ≤ W'.heap.size) : PrgAt lo hi W' v1 v2 v3 p := ⟨hz, h.caps.stay hs, h.codes.stay hs, h.sites.stay hs⟩
theorem PrgAt.later {p : Prg} (h : PrgAt lo hi W v1 v2 v3 p) (hb : Below W.heap.size W W') : PrgAt lo hi W' v1 v2 v3 p := h.stay (stay_below' hb h.top) (Nat.le_trans h.top hb.size)
theorem IntsAt.wider {l : List Int} (h : IntsAt lo hi W v l) {lo' hi' : Nat} (hl : lo' ≤ lo) (hh : hi ≤ hi') : IntsAt lo' hi' W v l := ⟨h.1.wider hl hh, h.2⟩
theorem CodeAt.wider {l : List In} (h : CodeAt lo hi W v l) {lo' hi' : Nat} (hl : lo' ≤ lo) (hh : hi ≤ hi') : CodeAt lo' hi' W v l := ⟨h.1.wider hl hh, h.2⟩
theorem CasesAt.wider {l : List Cas} (h : CasesAt lo hi W v l) {lo' hi' : Nat} (hl : lo' ≤ lo) (hh : hi ≤ hi') : CasesAt lo' hi' W v l := ⟨h.1.wider hl hh, h.2⟩
theorem CodesAt.wider {l : List (List In)} (h : CodesAt lo hi W v l) {lo' hi' : Nat} (hl : lo' ≤ lo) (hh : hi ≤ hi') : CodesAt lo' hi' W v l := by
  obtain ⟨vs, h1, h2⟩ := h
  exact ⟨vs, h1.wider hl hh, fun k u c hu hc => (h2 k u c hu hc).wider hl hh⟩
theorem SitesAt.wider {l : List Sit} (h : SitesAt lo hi W v l) {lo' hi' : Nat} (hl : lo' ≤ lo) (hh : hi ≤ hi') : SitesAt lo' hi' W v l := by
  obtain ⟨vs, h0, h1, h2⟩ := h
  exact ⟨vs, h0, h1.wider hl hh, fun k u c hu hc => (h2 k u c hu hc).wider hl hh⟩
theorem PrgAt.wider {p : Prg} (h : PrgAt lo hi W v1 v2 v3 p) {lo' hi' : Nat} (hl : lo' ≤ lo) (hh : hi ≤ hi') (hz : hi' ≤ W.heap.size) : PrgAt lo' hi' W v1 v2 v3 p :=
  ⟨hz, h.caps.wider hl hh, h.codes.wider hl hh, h.sites.wider hl hh⟩

theorem IntsAt.slice {l : List Int} (h : IntsAt lo hi W v l) : ∃ a c, v = .slice a l.length c := h.1.slice
theorem CodeAt.slice {l : List In} (h : CodeAt lo hi W v l) : ∃ a c, v = .slice a l.length c := h.1.slice
theorem CasesAt.slice {l : List Cas} (h : CasesAt lo hi W v l) : ∃ a c, v = .slice a l.length c := h.1.slice
theorem CodesAt.slice {l : List (List In)} (h : CodesAt lo hi W v l) : ∃ a c, v = .slice a l.length c := by obtain ⟨vs, h, _⟩ := h; exact h.slice
theorem SitesAt.slice {l : List Sit} (h : SitesAt lo hi W v l) : ∃ a c, v = .slice a l.length c := by obtain ⟨vs, _, h, _⟩ := h; exact h.slice

theorem IntsAt.at {l : List Int} (h : IntsAt lo hi W (.slice a n c) l) {k : Nat} (hk : k < l.length) : ∃ b off x, a = some ⟨b, off, none⟩ ∧ lo ≤ b ∧ b < hi ∧ l[k]? = some x ∧ I64b x ∧ W.cell? ⟨b, off + k, none⟩ = some (.int .i64 x) := by
  obtain ⟨b, off, rfl, hl, hh, hc⟩ := h.1.ad (by omega)
  refine ⟨b, off, l[k], rfl, hl, hh, List.getElem?_eq_getElem hk, h.2 _ (List.getElem_mem hk), hc k _ ?_⟩
  rw [I64, List.getElem?_map, List.getElem?_eq_getElem hk]; rfl
theorem CodeAt.at {l : List In} (h : CodeAt lo hi W (.slice a n c) l) {k : Nat} (hk : k < l.length) : ∃ b off x, a = some ⟨b, off, none⟩ ∧ lo ≤ b ∧ b < hi ∧ l[k]? = some x ∧ x.ok ∧
    W.cell? ⟨b, off + k * 5, none⟩ = some (.int .u8 (x.o : Int)) ∧ W.cell? ⟨b, off + k * 5 + 1, none⟩ = some (.int .i64 x.a) ∧ W.cell? ⟨b, off + k * 5 + 2, none⟩ = some (.int .i64 x.b) ∧ W.cell? ⟨b, off + k * 5 + 3, none⟩ = some (.int .i64 x.c) ∧ W.cell? ⟨b, off + k * 5 + 4, none⟩ = some (.int .i64 x.k) := by
  obtain ⟨b, off, rfl, hl, hh, hc⟩ := h.1.ad (by omega)
  have key : ∀ j u, j < 5 → (In.cellsL l[k])[j]? = some u → W.cell? ⟨b, off + k * 5 + j, none⟩ = some u := fun j u hj hu => by
    rw [Nat.add_assoc]
    exact hc _ _ (by rw [flat_get In.cellsL 5 (fun _ => rfl) l k j hj, List.getElem?_eq_getElem hk]; exact hu)
  exact ⟨b, off, l[k], rfl, hl, hh, List.getElem?_eq_getElem hk, h.2 _ (List.getElem_mem hk), key 0 _ (by omega) rfl, key 1 _ (by omega) rfl, key 2 _ (by omega) rfl, key 3 _ (by omega) rfl, key 4 _ (by omega) rfl⟩
theorem CasesAt.at {l : List Cas} (h : CasesAt lo hi W (.slice a n c) l) {k : Nat} (hk : k < l.length) : ∃ b off x, a = some ⟨b, off, none⟩ ∧ lo ≤ b ∧ b < hi ∧ l[k]? = some x ∧ x.ok ∧
    W.cell? ⟨b, off + k * 4, none⟩ = some (.bool x.s) ∧ W.cell? ⟨b, off + k * 4 + 1, none⟩ = some (.int .i64 x.c) ∧ W.cell? ⟨b, off + k * 4 + 2, none⟩ = some (.int .i64 x.v) ∧ W.cell? ⟨b, off + k * 4 + 3, none⟩ = some (.int .i64 x.o) := by
  obtain ⟨b, off, rfl, hl, hh, hc⟩ := h.1.ad (by omega)
  have key : ∀ j u, j < 4 → (Cas.cellsL l[k])[j]? = some u → W.cell? ⟨b, off + k * 4 + j, none⟩ = some u := fun j u hj hu => by
    rw [Nat.add_assoc]
    exact hc _ _ (by rw [flat_get Cas.cellsL 4 (fun _ => rfl) l k j hj, List.getElem?_eq_getElem hk]; exact hu)
  exact ⟨b, off, l[k], rfl, hl, hh, List.getElem?_eq_getElem hk, h.2 _ (List.getElem_mem hk), key 0 _ (by omega) rfl, key 1 _ (by omega) rfl, key 2 _ (by omega) rfl, key 3 _ (by omega) rfl⟩
theorem CodesAt.at {l : List (List In)} (h : CodesAt lo hi W (.slice a n c) l) {k : Nat} (hk : k < l.length) : ∃ b off ra rc x, a = some ⟨b, off, none⟩ ∧ lo ≤ b ∧ b < hi ∧ l[k]? = some x ∧
    W.cell? ⟨b, off + k, none⟩ = some (.slice ra x.length rc) ∧ CodeAt lo hi W (.slice ra x.length rc) x := by
  obtain ⟨vs, h1, h2⟩ := h
  have hlen := h1.1
  obtain ⟨b, off, rfl, hl, hh, hc⟩ := h1.ad (by omega)
  have hkv : k < vs.length := by omega
  have hx := h2 k _ _ (List.getElem?_eq_getElem hkv) (List.getElem?_eq_getElem hk)
  obtain ⟨ra, rc, hv⟩ := hx.slice
  exact ⟨b, off, ra, rc, l[k], rfl, hl, hh, List.getElem?_eq_getElem hk, hv ▸ hc k _ (List.getElem?_eq_getElem hkv), hv ▸ hx⟩
theorem SitesAt.at {l : List Sit} (h : SitesAt lo hi W (.slice a n c) l) {k : Nat} (hk : k < l.length) : ∃ b off ra rc x, a = some ⟨b, off, none⟩ ∧ lo ≤ b ∧ b < hi ∧ l[k]? = some x ∧
    W.cell? ⟨b, off + k * 2, none⟩ = some (.slice ra x.cs.length rc) ∧ W.cell? ⟨b, off + k * 2 + 1, none⟩ = some (.bool x.d) ∧ CasesAt lo hi W (.slice ra x.cs.length rc) x.cs := by
  obtain ⟨vs, h0, h1, h2⟩ := h
  obtain ⟨b, off, rfl, hl, hh, hc⟩ := h1.ad (by omega)
  have hkv : k < vs.length := by omega
  have hx := h2 k _ _ (List.getElem?_eq_getElem hkv) (List.getElem?_eq_getElem hk)
  obtain ⟨ra, rc, hv⟩ := hx.slice
  have key : ∀ j u, j < 2 → [vs[k], Value.bool l[k].d][j]? = some u → W.cell? ⟨b, off + k * 2 + j, none⟩ = some u := fun j u hj hu => by
    rw [Nat.add_assoc]
    refine hc _ _ ?_
    rw [siteCells, flat_get (fun p : Value × Sit => [p.1, Value.bool p.2.d]) 2 (fun _ => rfl) _ k j hj]
    rw [List.getElem?_eq_getElem (by simp; omega)]
    simpa using hu
  exact ⟨b, off, ra, rc, l[k], rfl, hl, hh, List.getElem?_eq_getElem hk, hv ▸ key 0 _ (by omega) rfl, key 1 _ (by omega) rfl, hv ▸ hx⟩
end

/-! ### What may be -/
def withinB (v a b : Int) : Bool := decide (a ≤ v) && decide (v ≤ b)
def mayCaseB (n : Int) (x : Cas) : Bool := (((x.c == -1 || withinB x.c 0 (n - 1)) && withinB x.v 0 7) && withinB x.o 0 7) && (!x.s || x.o == 0)
abbrev Wr := Int × Int × Int
def wrongIf (b : Bool) (w : Wr) : Option Wr := if b then none else some w
def firstI {α : Type} (f : Nat → α → Option Wr) : Nat → List α → Option Wr
  | _, [] => none
  | k, x :: t => (f k x).or (firstI f (k + 1) t)
theorem firstI_none {α : Type} {f : Nat → α → Option Wr} {l : List α} {n : Nat} : firstI f n l = none ↔ ∀ j x, l[j]? = some x → f (n + j) x = none := by
  induction l generalizing n with
  | nil => simp [firstI]
  | cons y t ih =>
    simp only [firstI, Option.or_eq_none_iff, ih]
    constructor
    · rintro ⟨h1, h2⟩ j x hx
      cases j with
      | zero => simp at hx; subst hx; exact h1
      | succ j => rw [List.getElem?_cons_succ] at hx; rw [show n + (j + 1) = n + 1 + j by omega]; exact h2 j x hx
    · intro h
      exact ⟨h 0 y rfl, fun j x hx => by rw [show n + 1 + j = n + (j + 1) by omega]; exact h (j + 1) x hx⟩
theorem firstI_some {α : Type} {f : Nat → α → Option Wr} {l : List α} {n k : Nat} {x : α} {w : Wr} (h : ∀ j y, j < k → l[j]? = some y → f (n + j) y = none) (hx : l[k]? = some x) (hw : f (n + k) x = some w) : firstI f n l = some w := by
  induction l generalizing n k with
  | nil => simp at hx
  | cons y t ih =>
    cases k with
    | zero => simp at hx; subst hx; simp only [firstI]; rw [show f n y = some w from hw]; rfl
    | succ k =>
      simp only [firstI]
      rw [show f n y = none from h 0 y (by omega) rfl, Option.none_or]
      rw [List.getElem?_cons_succ] at hx
      exact ih (k := k) (fun j z hj hz => by rw [show n + 1 + j = n + (j + 1) by omega]; exact h (j + 1) z (by omega) hz) hx (by rw [show n + 1 + k = n + (k + 1) by omega]; exact hw)
def chansW (caps : List Int) : Option Wr := (wrongIf (decide (caps.length ≤ 6)) (0, 0, 110)).or (firstI (fun k c => wrongIf (withinB c 0 8) ((k : Int), 0, 110)) 0 caps)
def siteW (n : Int) (k : Nat) (st : Sit) : Option Wr := (wrongIf (withinB st.cs.length 1 6) ((k : Int), 0, 111)).or (firstI (fun _ x => wrongIf (mayCaseB n x) ((k : Int), 0, 111)) 0 st.cs)
def sitesW (n : Int) (l : List Sit) : Option Wr := (wrongIf (decide (l.length ≤ 12)) (0, 0, 111)).or (firstI (siteW n) 0 l)
def codeW (a b c : Int) (k : Nat) (l : List In) : Option Wr := (wrongIf (withinB l.length 1 40) ((k : Int), 0, 112)).or (firstI (fun pc x => wrongIf (checkB x a b c l.length) ((k : Int), (pc : Int), 112)) 0 l)
def codesW (a b : Int) (l : List (List In)) : Option Wr := (wrongIf (withinB l.length 1 8) (0, 0, 112)).or (firstI (codeW a b l.length) 0 l)
def lastOp (l : List In) : Nat := (l[l.length - 1]?.getD In.zero).o
def fallW (k : Nat) (l : List In) : Option Wr := wrongIf (lastOp l == 10 || lastOp l == 3) ((k : Int), 0, 113)
def fallsW (l : List (List In)) : Option Wr := firstI fallW 0 l
def checkW (p : Prg) : Option Wr := (chansW p.caps).or ((sitesW p.caps.length p.sites).or ((codesW p.caps.length p.sites.length p.codes).or (fallsW p.codes)))
def checkT (p : Prg) : Wr := (checkW p).getD (0, 0, 0)
def endW : Option Wr → Ending
  | none => .returned (.tuple #[])
  | some w => .panicked [{ v := .iface 82 (.agg #[.int .i64 w.1, .int .i64 w.2.1, .int .i64 w.2.2]), recovered := false }]
end Go.Proofs.Ytamkmmpockmpfaa
