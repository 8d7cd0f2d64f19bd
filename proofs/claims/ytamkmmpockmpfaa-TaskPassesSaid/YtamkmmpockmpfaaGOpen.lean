/-
  A program that is handed over, as it lies in memory.
-/
import Derived.Test.YtamkmmpockmpfaaGRow
import Derived.Test.YtamkmmpockmpfaaRows
import Derived.ProofKit
import Derived.OpenShut
import Derived.Below
import Derived.Deep.Slices
namespace Go.Proofs.Ytamkmmpockmpfaa
open Go.ChangeShapes Go.WideShapes Go.ChangeAt Go.RowKit Go.Deep

theorem cIns : Try.prog.cellsOf 77 = 5 := by kernel_rfl
theorem cCase : Try.prog.cellsOf 75 = 4 := by kernel_rfl
theorem cSite : Try.prog.cellsOf 41 = 2 := by kernel_rfl
theorem cPrg : Try.prog.cellsOf 26 = 3 := by kernel_rfl
theorem cInt : Try.prog.cellsOf 3 = 1 := by kernel_rfl
theorem cI64 : Try.prog.cellsOf 2 = 1 := by kernel_rfl
theorem cU8 : Try.prog.cellsOf 5 = 1 := by kernel_rfl
theorem cBool : Try.prog.cellsOf 4 = 1 := by kernel_rfl
theorem cInts : Try.prog.cellsOf 22 = 1 := by kernel_rfl
theorem cCode : Try.prog.cellsOf 49 = 1 := by kernel_rfl
theorem cCases : Try.prog.cellsOf 39 = 1 := by kernel_rfl
theorem cCodes : Try.prog.cellsOf 23 = 1 := by kernel_rfl
theorem cSites : Try.prog.cellsOf 24 = 1 := by kernel_rfl

theorem u8_range {z : Int} (h : (Lit.int .u8 z).wf = true) : 0 ≤ z ∧ z < 256 := by
  simp only [Lit.wf, Bool.and_eq_true, decide_eq_true_eq] at h
  have e1 : IntKind.min .u8 = 0 := by decide
  have e2 : IntKind.max .u8 = 255 := by decide
  omega
theorem i64_range {z : Int} (h : (Lit.int .i64 z).wf = true) : I64b z := by
  simp only [Lit.wf, Bool.and_eq_true, decide_eq_true_eq] at h
  have e1 : IntKind.min .i64 = -9223372036854775808 := by decide
  have e2 : IntKind.max .i64 = 9223372036854775807 := by decide
  exact ⟨by omega, by omega⟩
theorem five {α : Type} {l : List α} (h : l.length = 5) : ∃ a b c d e, l = [a, b, c, d, e] := by
  match l, h with
  | [a, b, c, d, e], _ => exact ⟨a, b, c, d, e, rfl⟩
theorem four {α : Type} {l : List α} (h : l.length = 4) : ∃ a b c d, l = [a, b, c, d] := by
  match l, h with
  | [a, b, c, d], _ => exact ⟨a, b, c, d, rfl⟩
theorem three {α : Type} {l : List α} (h : l.length = 3) : ∃ a b c, l = [a, b, c] := by
  match l, h with
  | [a, b, c], _ => exact ⟨a, b, c, rfl⟩
theorem two {α : Type} {l : List α} (h : l.length = 2) : ∃ a b, l = [a, b] := by
  match l, h with
  | [a, b], _ => exact ⟨a, b, rfl⟩
theorem single {α : Type} {l : List α} (h : l.length = 1) : ∃ a, l = [a] := by
  match l, h with
  | [a], _ => exact ⟨a, rfl⟩
section
variable {H : Type} {enc : TypeId × Value → H} {W : World} {n : Nat} {cs : List Value} {x : DataW H × List MemPlace}
set_option maxRecDepth 100000 in
theorem open_in (hcs : cs.length = 5) (h : DataW.trod enc Try.prog W 0 (fun _ => true) true n 77 cs = some x) : ∃ x : In, x.ok ∧ cs = In.cellsL x := by
  have hs := DataW.trod_struct Try.underlying77 h
  rw [cIns] at hs
  obtain ⟨xs, m, _, _, _, hl, hf⟩ := hs
  obtain ⟨v0, v1, v2, v3, v4, rfl⟩ := five hcs
  obtain ⟨y0, y1, y2, y3, y4, rfl⟩ := five (show xs.length = 5 from hl)
  have k0 : DataW.trod enc Try.prog W 0 (fun _ => true) true m 5 (List.take (Try.prog.cellsOf 5) [v0, v1, v2, v3, v4]) = some y0 := hf 0 _ rfl
  rw [cU8, List.take_succ_cons, List.take_zero] at k0
  have k1 : DataW.trod enc Try.prog W 0 (fun _ => true) true m 3 (List.take (Try.prog.cellsOf 3) [v1, v2, v3, v4]) = some y1 := hf 1 _ rfl
  rw [cInt, List.take_succ_cons, List.take_zero] at k1
  have k2 : DataW.trod enc Try.prog W 0 (fun _ => true) true m 3 (List.take (Try.prog.cellsOf 3) [v2, v3, v4]) = some y2 := hf 2 _ rfl
  rw [cInt, List.take_succ_cons, List.take_zero] at k2
  have k3 : DataW.trod enc Try.prog W 0 (fun _ => true) true m 3 (List.take (Try.prog.cellsOf 3) [v3, v4]) = some y3 := hf 3 _ rfl
  rw [cInt, List.take_succ_cons, List.take_zero] at k3
  have k4 : DataW.trod enc Try.prog W 0 (fun _ => true) true m 2 (List.take (Try.prog.cellsOf 2) [v4]) = some y4 := hf 4 _ rfl
  rw [cI64, List.take_succ_cons, List.take_zero] at k4
  clear hf h hl hcs
  obtain ⟨c0, e0, _, u0⟩ := DataW.trod_int Try.underlying5 k0
  obtain ⟨c1, e1, _, u1⟩ := DataW.trod_int Try.underlying3 k1
  obtain ⟨c2, e2, _, u2⟩ := DataW.trod_int Try.underlying3 k2
  obtain ⟨c3, e3, _, u3⟩ := DataW.trod_int Try.underlying3 k3
  obtain ⟨c4, e4, _, u4⟩ := DataW.trod_int Try.underlying2 k4
  simp only [List.cons.injEq, and_true] at e0 e1 e2 e3 e4
  subst e0 e1 e2 e3 e4
  have r0 := u8_range u0
  refine ⟨⟨c0.toNat, c1, c2, c3, c4⟩, ⟨by simp only; omega, i64_range u1, i64_range u2, i64_range u3, i64_range u4⟩, ?_⟩
  simp only [In.cellsL]
  rw [Int.toNat_of_nonneg r0.1]
set_option maxRecDepth 100000 in
theorem open_case (hcs : cs.length = 4) (h : DataW.trod enc Try.prog W 0 (fun _ => true) true n 75 cs = some x) : ∃ x : Cas, x.ok ∧ cs = Cas.cellsL x := by
  have hs := DataW.trod_struct Try.underlying75 h
  rw [cCase] at hs
  obtain ⟨xs, m, _, _, _, hl, hf⟩ := hs
  obtain ⟨v0, v1, v2, v3, rfl⟩ := four hcs
  obtain ⟨y0, y1, y2, y3, rfl⟩ := four (show xs.length = 4 from hl)
  have k0 : DataW.trod enc Try.prog W 0 (fun _ => true) true m 4 (List.take (Try.prog.cellsOf 4) [v0, v1, v2, v3]) = some y0 := hf 0 _ rfl
  rw [cBool, List.take_succ_cons, List.take_zero] at k0
  have k1 : DataW.trod enc Try.prog W 0 (fun _ => true) true m 3 (List.take (Try.prog.cellsOf 3) [v1, v2, v3]) = some y1 := hf 1 _ rfl
  rw [cInt, List.take_succ_cons, List.take_zero] at k1
  have k2 : DataW.trod enc Try.prog W 0 (fun _ => true) true m 3 (List.take (Try.prog.cellsOf 3) [v2, v3]) = some y2 := hf 2 _ rfl
  rw [cInt, List.take_succ_cons, List.take_zero] at k2
  have k3 : DataW.trod enc Try.prog W 0 (fun _ => true) true m 3 (List.take (Try.prog.cellsOf 3) [v3]) = some y3 := hf 3 _ rfl
  rw [cInt, List.take_succ_cons, List.take_zero] at k3
  clear hf h hl hcs
  obtain ⟨c0, e0, _⟩ := DataW.trod_bool Try.underlying4 k0
  obtain ⟨c1, e1, _, u1⟩ := DataW.trod_int Try.underlying3 k1
  obtain ⟨c2, e2, _, u2⟩ := DataW.trod_int Try.underlying3 k2
  obtain ⟨c3, e3, _, u3⟩ := DataW.trod_int Try.underlying3 k3
  simp only [List.cons.injEq, and_true] at e0 e1 e2 e3
  subst e0 e1 e2 e3
  exact ⟨⟨c0, c1, c2, c3⟩, ⟨i64_range u1, i64_range u2, i64_range u3⟩, rfl⟩
/-- A row of things, each of which is told by its cells. -/
theorem open_row {α : Type} {sl T : TypeId} {s : Nat} (hu : Try.prog.underlying sl = some (.slice T)) (hc : Try.prog.cellsOf T = s) (hs : 0 < s) {f : α → List Value} (hlen : ∀ q, (f q).length = s) {R : α → Prop}
    (hel : ∀ (n : Nat) (cs : List Value) (x : DataW H × List MemPlace), cs.length = s → DataW.trod enc Try.prog W 0 (fun _ => true) true n T cs = some x → ∃ q, R q ∧ cs = f q) {v : Value} (h : DataW.trod enc Try.prog W 0 (fun _ => true) true n sl [v] = some x) :
    ∃ qs : List α, Flat 0 W.heap.size W s qs.length v (qs.flatMap f) ∧ ∀ q ∈ qs, R q := by
  rcases open_slice hu h with ⟨hcs, _⟩ | ⟨a, len, c, m, k, D, Pl, hcs, _, hl, hm, hmm, _, hx⟩
  · simp at hcs
    subst hcs
    exact ⟨[], ⟨by simp, none, 0, rfl, .inl rfl⟩, by simp⟩
  · simp at hcs
    subst hcs
    by_cases h0 : len = 0
    · subst h0
      exact ⟨[], ⟨by simp, some a, c, rfl, .inl rfl⟩, by simp⟩
    have hlm : len ≤ m := by rw [hmm]; split <;> omega
    rw [hc] at hx
    have key : ∀ j, j < len → ∃ q : α, R q ∧ ∀ i u, (f q)[i]? = some u → W.cell? ((a.add (j * s)).add i) = some u := fun j hj => by
      obtain ⟨cs, h1, h2⟩ := hx j (by omega)
      obtain ⟨_, hl', hat⟩ := World.cells?_some h1
      obtain ⟨q, hR, rfl⟩ := hel _ _ _ hl' h2
      exact ⟨q, hR, fun i u hu => (hat i (by have := (List.getElem?_eq_some_iff.1 hu).1; omega)).trans hu⟩
    haveI : Inhabited α := ⟨Classical.choose (key 0 (by omega))⟩
    have key2 : ∃ g : Nat → α, ∀ j, j < len → R (g j) ∧ ∀ i u, (f (g j))[i]? = some u → W.cell? ((a.add (j * s)).add i) = some u := choose_lt key
    obtain ⟨g, hg⟩ := key2
    obtain ⟨b, off, spot⟩ := a
    have hc0 := (hg 0 (by omega)).2 0 _ (List.getElem?_eq_getElem (by rw [hlen]; exact hs))
    have hspot : spot = none := by simpa [Addr.add] using World.cell?_spot hc0
    subst hspot
    have ad : ∀ o j, (Addr.mk b o none).add j = ⟨b, o + j, none⟩ := fun o j => by
      by_cases hj : j = 0
      · subst hj; simp [Addr.add]
      · simp [Addr.add, hj]
    have hbl := World.block_lt_of_cell? W _ hc0
    rw [ad, ad] at hbl
    refine ⟨(List.range len).map g, ⟨by rw [flat_len f s hlen], some ⟨b, off, none⟩, c, by simp, .inr ⟨b, off, rfl, Nat.zero_le _, hbl, fun j u hu => ?_⟩⟩, fun q hq => ?_⟩
    · have hj : j < len * s := by have := (List.getElem?_eq_some_iff.1 hu).1; rw [flat_len f s hlen] at this; simpa using this
      have e : j = j / s * s + j % s := by rw [Nat.mul_comm]; exact (Nat.div_add_mod j s).symm
      have hd : j / s < len := Nat.div_lt_of_lt_mul (by rw [Nat.mul_comm]; exact hj)
      rw [e, flat_get f s hlen _ _ _ (Nat.mod_lt j hs), List.getElem?_map, List.getElem?_range hd] at hu
      have := (hg _ hd).2 _ u hu
      rw [ad, ad] at this
      rw [show off + j = off + j / s * s + j % s by omega]
      exact this
    · obtain ⟨j, hj, rfl⟩ := List.mem_map.1 hq
      exact (hg j (List.mem_range.1 hj)).1
theorem open_code {v : Value} (h : DataW.trod enc Try.prog W 0 (fun _ => true) true n 49 [v] = some x) : ∃ l, CodeAt 0 W.heap.size W v l :=
  open_row Try.underlying49 cIns (by decide) (f := In.cellsL) (fun _ => rfl) (R := fun x => x.ok) (fun _ _ _ hl h => open_in hl h) h
theorem open_cases {v : Value} (h : DataW.trod enc Try.prog W 0 (fun _ => true) true n 39 [v] = some x) : ∃ l, CasesAt 0 W.heap.size W v l :=
  open_row Try.underlying39 cCase (by decide) (f := Cas.cellsL) (fun _ => rfl) (R := fun x => x.ok) (fun _ _ _ hl h => open_case hl h) h
theorem flat_single {α : Type} (g : α → Value) (l : List α) : (l.flatMap fun q => [g q]) = l.map g := by
  induction l with
  | nil => rfl
  | cons a t ih => simp [ih]
theorem open_ints {v : Value} (h : DataW.trod enc Try.prog W 0 (fun _ => true) true n 22 [v] = some x) : ∃ l, IntsAt 0 W.heap.size W v l := by
  obtain ⟨l, h1, h2⟩ := open_row Try.underlying22 cInt (by decide) (f := fun z : Int => [Value.int .i64 z]) (fun _ => rfl) (R := I64b) (fun _ cs _ hl h => by
    obtain ⟨z, rfl, _, hz⟩ := DataW.trod_int Try.underlying3 h
    exact ⟨z, i64_range hz, rfl⟩) h
  rw [flat_single] at h1
  exact ⟨l, h1, h2⟩
theorem open_codes {v : Value} (h : DataW.trod enc Try.prog W 0 (fun _ => true) true n 23 [v] = some x) : ∃ l, CodesAt 0 W.heap.size W v l := by
  obtain ⟨l, h1, h2⟩ := open_row Try.underlying23 cCode (by decide) (f := fun q : List In × Value => [q.2]) (fun _ => rfl) (R := fun q => CodeAt 0 W.heap.size W q.2 q.1) (fun _ cs _ hl h => by
    obtain ⟨u, rfl⟩ := single hl
    obtain ⟨l, hl⟩ := open_code h
    exact ⟨(l, u), hl, rfl⟩) h
  rw [flat_single] at h1
  refine ⟨l.map (·.1), l.map (·.2), by rw [List.length_map]; exact h1, fun k u x hu hx => ?_⟩
  rw [List.getElem?_map] at hu hx
  cases hk : l[k]? with
  | none => rw [hk] at hu; cases hu
  | some q =>
    rw [hk] at hu hx
    simp only [Option.map_some, Option.some.injEq] at hu hx
    subst hu hx
    exact h2 q (List.mem_of_getElem? hk)
theorem zip_maps {α β γ : Type} (f : α → β) (g : α → γ) (l : List α) : (l.map f).zip (l.map g) = l.map fun q => (f q, g q) := by
  induction l with
  | nil => rfl
  | cons a t ih => simp [ih]
set_option maxRecDepth 100000 in
theorem open_sites {v : Value} (h : DataW.trod enc Try.prog W 0 (fun _ => true) true n 24 [v] = some x) : ∃ l, SitesAt 0 W.heap.size W v l := by
  obtain ⟨l, h1, h2⟩ := open_row Try.underlying24 cSite (by decide) (f := fun q : Sit × Value => [q.2, Value.bool q.1.d]) (fun _ => rfl) (R := fun q => CasesAt 0 W.heap.size W q.2 q.1.cs) (fun _ cs _ hl h => by
    have hs := DataW.trod_struct Try.underlying41 h
    rw [cSite] at hs
    obtain ⟨xs, m, _, _, _, hl', hf⟩ := hs
    obtain ⟨u0, u1, rfl⟩ := two hl
    obtain ⟨y0, y1, rfl⟩ := two (show xs.length = 2 from hl')
    have k0 : DataW.trod enc Try.prog W 0 (fun _ => true) true m 39 (List.take (Try.prog.cellsOf 39) [u0, u1]) = some y0 := hf 0 _ rfl
    rw [cCases, List.take_succ_cons, List.take_zero] at k0
    have k1 : DataW.trod enc Try.prog W 0 (fun _ => true) true m 4 (List.take (Try.prog.cellsOf 4) [u1]) = some y1 := hf 1 _ rfl
    rw [cBool, List.take_succ_cons, List.take_zero] at k1
    obtain ⟨c1, e1, _⟩ := DataW.trod_bool Try.underlying4 k1
    simp only [List.cons.injEq, and_true] at e1
    subst e1
    obtain ⟨l, hl⟩ := open_cases k0
    exact ⟨(⟨l, c1⟩, u0), hl, rfl⟩) h
  refine ⟨l.map (·.1), l.map (·.2), by simp, ?_, fun k u x hu hx => ?_⟩
  · rw [List.length_map, siteCells, zip_maps, List.flatMap_map]
    exact h1
  · rw [List.getElem?_map] at hu hx
    cases hk : l[k]? with
    | none => rw [hk] at hu; cases hu
    | some q =>
      rw [hk] at hu hx
      simp only [Option.map_some, Option.some.injEq] at hu hx
      subst hu hx
      exact h2 q (List.mem_of_getElem? hk)
end
set_option maxRecDepth 100000 in
theorem open_prog {H : Type} {enc : TypeId × Value → H} {W : World} {base : Nat} {v : Value} {d : DataW H} {ps : List MemPlace} (hv : Value.okWide Try.prog W .any base 26 v)
    (h : DataW.Trod enc Try.prog W 0 (fun _ => true) true 26 v d ps) : ∃ v1 v2 v3 p, v = .agg #[v1, v2, v3] ∧ PrgAt 0 W.heap.size W v1 v2 v3 p := by
  have hs := okWide_struct Try.underlying26 hv
  rw [cPrg] at hs
  obtain ⟨cs, rfl, hcs⟩ := hs
  obtain ⟨n, h⟩ := h
  obtain ⟨l⟩ := cs
  have h' : DataW.trod enc Try.prog W 0 (fun _ => true) true n 26 l = some (d, ps) := by simpa [Value.cells] using h
  have hs := DataW.trod_struct Try.underlying26 h'
  rw [cPrg] at hs
  obtain ⟨xs, m, _, _, _, hl, hf⟩ := hs
  obtain ⟨v0, v1, v2, rfl⟩ := three (show l.length = 3 by simpa using hcs)
  obtain ⟨y0, y1, y2, rfl⟩ := three (show xs.length = 3 from hl)
  have k0 : DataW.trod enc Try.prog W 0 (fun _ => true) true m 22 (List.take (Try.prog.cellsOf 22) [v0, v1, v2]) = some y0 := hf 0 _ rfl
  rw [cInts, List.take_succ_cons, List.take_zero] at k0
  have k1 : DataW.trod enc Try.prog W 0 (fun _ => true) true m 23 (List.take (Try.prog.cellsOf 23) [v1, v2]) = some y1 := hf 1 _ rfl
  rw [cCodes, List.take_succ_cons, List.take_zero] at k1
  have k2 : DataW.trod enc Try.prog W 0 (fun _ => true) true m 24 (List.take (Try.prog.cellsOf 24) [v2]) = some y2 := hf 2 _ rfl
  rw [cSites, List.take_succ_cons, List.take_zero] at k2
  obtain ⟨q0, p0⟩ := open_ints k0
  obtain ⟨q1, p1⟩ := open_codes k1
  obtain ⟨q2, p2⟩ := open_sites k2
  exact ⟨v0, v1, v2, ⟨q0, q1, q2⟩, rfl, ⟨Nat.le_refl _, p0, p1, p2⟩⟩
end Go.Proofs.Ytamkmmpockmpfaa
