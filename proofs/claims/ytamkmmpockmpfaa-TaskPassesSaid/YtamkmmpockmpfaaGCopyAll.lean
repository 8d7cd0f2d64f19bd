/-
  The walks of copyRow of sites, and of Copy.
-/
import Derived.Test.YtamkmmpockmpfaaGCopy
namespace Go.Proofs.Ytamkmmpockmpfaa
open Go.RowKit

theorem sites_one {lo hi : Nat} {W : World} {vs : List Value} {l : List Sit} (hl : vs.length = l.length) (h : ∀ (k : Nat) (u : Value) (x : Sit), vs[k]? = some u → l[k]? = some x → CasesAt lo hi W u x.cs) : ∀ u ∈ siteCells vs l, u.oneCell' = true := by
  intro u hu
  obtain ⟨⟨a, b⟩, hp, hu⟩ := List.mem_flatMap.1 hu
  obtain ⟨k, hk, he⟩ := List.mem_iff_getElem.1 hp
  rw [List.getElem_zip] at he
  simp only [Prod.mk.injEq] at he
  obtain ⟨rfl, rfl⟩ := he
  rw [List.length_zip] at hk
  obtain ⟨c, d, e⟩ := (h k _ _ (List.getElem?_eq_getElem (by omega)) (List.getElem?_eq_getElem (by omega))).slice
  simp only [List.mem_cons, List.not_mem_nil, or_false] at hu
  rcases hu with rfl | rfl
  · rw [e]; rfl
  · rfl

set_option maxHeartbeats 800000 in
theorem copySites_any {lo hi : Nat} {v : Value} {l : List Sit} (w : World) (h : SitesAt lo hi w v l) (t : hi ≤ w.heap.size) (hn : l.length ≤ 1000000) (hm : ∀ x ∈ l, x.cs.length ≤ 1000000) :
    Calls Try.prog 37 #[v, .func (.func 38) #[] #[]] w fun e w' => ∃ v', e = .returned v' ∧ OwnSites w.heap.size w' v' l ∧ Below w.heap.size w w' := by
  obtain ⟨vs, hv, hf, hc⟩ := id h
  have hcl := cloneSite_any w hf t (sites_one hv hc) hn
  obtain ⟨a, c, rfl⟩ := h.slice
  clear hf hc
  go_enter Try.func37, Try.ntmps37
  go_wp2_with fail
  refine hcl.mono ?_
  rintro e w1 ⟨v1, rfl, hown, hb1⟩
  obtain ⟨a1, c1, rfl⟩ := owns_slice hown
  clear hcl
  go_wp2_with fail
  go_loopw [12] (fun iv wr => ∃ (k : Nat) (xs : List Value), k ≤ l.length ∧ iv = .int .i64 (k : Int) ∧ Below w.heap.size w wr ∧ wr.ownsRow w.heap.size 41 2 (.slice a1 l.length c1) l.length xs ∧
    Hid (∀ (j : Nat) (x : Sit), j < k → l[j]? = some x → ∃ u, xs[j * 2]? = some u ∧ xs[j * 2 + 1]? = some (.bool x.d) ∧ OwnCases w.heap.size wr u x.cs)) (fun iv _ => l.length - (intOf iv).toNat)
  case atStart => exact ⟨0, _, Nat.zero_le _, rfl, hb1, hown, Lib.hid (fun j x hj => by omega)⟩
  case round =>
    clear hown hb1
    obtain ⟨k, xs, hk, rfl, hB, hown, HN⟩ := hrel
    by_cases hlt : k < l.length
    · have hlt' : (k : Int) < (l.length : Int) := by omega
      have k0 : (0 : Int) ≤ (k : Int) := by omega
      have hw1 : IntKind.i64.wrap ((k : Int) + 1) = (k : Int) + 1 := by rw [IntKind.wrap_i64]; omega
      obtain ⟨b, off, ra, rc, x, rfl, -, -, hx, hcell, hcell2, hrx⟩ := (h.stay (stay_below' hB t)).at hlt
      have hul : xs.length = l.length * 2 := hown.1
      obtain ⟨g, rfl⟩ : ∃ g, a1 = some ⟨g, 0, none⟩ := by
        rcases hown.2 with ⟨_, h0⟩ | ⟨g, cap, cur, he, _⟩
        · omega
        · simp only [Value.slice.injEq] at he
          exact ⟨g, he.1⟩
      have hbx : Below wr.heap.size wr (wr.alloc (.cells #[.slice ra x.cs.length rc, .bool x.d] 41)) := (Below.refl _ wr).alloc (Nat.le_refl _) _
      have hcl := copySite_any (x := x) (wr.alloc (.cells #[.slice ra x.cs.length rc, .bool x.d] 41)) (hrx.stay (stay_below' hbx (Nat.le_trans t hB.size))) (Nat.le_trans t (Nat.le_trans hB.size hbx.size)) (hm x (List.mem_of_getElem? hx))
      have HX := Lib.hid hx
      clear hx hrx
      go_wp2_with fail
      refine hcl.mono ?_
      rintro e w2 ⟨v2, rfl, hown2, hb2⟩
      obtain ⟨a2, c2, rfl⟩ := owns_slice hown2
      have hbb : Below wr.heap.size wr w2 := hbx.trans (hb2.mono hbx.size)
      have hownA := owns_fresh hown hbb
      have hB2 := below_next hB hbb (Nat.le_refl _)
      obtain ⟨hg0, cur, hgc⟩ := owns_block hownA rfl
      have hz := hownA.frozenAt (k * 2)
      have hz1 := hownA.frozenAt (k * 2 + 1)
      have hkc : w2.cell? ⟨g, k * 2, none⟩ = some (xs[k * 2]'(by omega)) := by rw [hownA.cellAt (k * 2) (by omega), List.getElem?_eq_getElem]
      have hkd : w2.cell? ⟨g, k * 2 + 1, none⟩ = some (xs[k * 2 + 1]'(by omega)) := by rw [hownA.cellAt (k * 2 + 1) (by omega), List.getElem?_eq_getElem]
      have HA := (hownA.stored (k * 2) (.slice a2 x.cs.length c2)).1
      have HA2 := (HA.stored (k * 2 + 1) (.bool x.d)).1
      have hgc2 := heap_set_same (k := k * 2) (.slice a2 x.cs.length c2) hgc
      clear hcl HA
      go_wp2_with fail
      go_round
      case rel =>
        refine ⟨k + 1, _, by omega, by go_num, (hB2.setCell (p := ⟨g, k * 2, none⟩) hg0 _).setCell (p := ⟨g, k * 2 + 1, none⟩) hg0 _, HA2, Lib.hid (fun j y hj hy => ?_)⟩
        by_cases e : j = k
        · subst e
          rw [HX.out] at hy
          cases hy
          refine ⟨.slice a2 x.cs.length c2, ?_, ?_, ?_⟩
          · rw [List.getElem?_set_ne (by omega), List.getElem?_set_self (by omega)]
          · rw [List.getElem?_set_self (by simp; omega)]
          · exact owns_beside (owns_beside (owns_base hown2 (Nat.le_trans hB.size hbx.size)) hgc (by decide) _) hgc2 (by decide) _
        · obtain ⟨u, h1, h2, h3⟩ := HN.out j y (by omega) hy
          refine ⟨u, ?_, ?_, ?_⟩
          · rw [List.getElem?_set_ne (by omega), List.getElem?_set_ne (by omega)]; exact h1
          · rw [List.getElem?_set_ne (by omega), List.getElem?_set_ne (by omega)]; exact h2
          · exact owns_beside (owns_beside (owns_fresh h3 hbb) hgc (by decide) _) hgc2 (by decide) _
      case measure => simp [intOf]; omega
    · have hlt' : ¬ (k : Int) < (l.length : Int) := by omega
      go_wp2_with fail
      go_ret
      exact ⟨_, rfl, ⟨xs, hown, fun j x hx => HN.out j x (by have := (List.getElem?_eq_some_iff.1 hx).1; omega) hx⟩, hB⟩

section
variable {base base' : Nat} {W W' : World} {v v1 v2 v3 : Value}
theorem OwnCodes.fresh {l : List (List In)} (h : OwnCodes base W v l) (hb : Below W.heap.size W W') : OwnCodes base W' v l := by
  obtain ⟨us, h1, h2⟩ := h
  exact ⟨us, owns_fresh h1 hb, fun k u x hu hx => owns_fresh (h2 k u x hu hx) hb⟩
theorem OwnSites.fresh {l : List Sit} (h : OwnSites base W v l) (hb : Below W.heap.size W W') : OwnSites base W' v l := by
  obtain ⟨xs, h1, h2⟩ := h
  exact ⟨xs, owns_fresh h1 hb, fun k x hx => by obtain ⟨u, e1, e2, e3⟩ := h2 k x hx; exact ⟨u, e1, e2, owns_fresh e3 hb⟩⟩
theorem OwnCodes.lower {l : List (List In)} (h : OwnCodes base W v l) (hb : base' ≤ base) : OwnCodes base' W v l := by
  obtain ⟨us, h1, h2⟩ := h
  exact ⟨us, owns_base h1 hb, fun k u x hu hx => owns_base (h2 k u x hu hx) hb⟩
theorem OwnSites.lower {l : List Sit} (h : OwnSites base W v l) (hb : base' ≤ base) : OwnSites base' W v l := by
  obtain ⟨xs, h1, h2⟩ := h
  exact ⟨xs, owns_base h1 hb, fun k x hx => by obtain ⟨u, e1, e2, e3⟩ := h2 k x hx; exact ⟨u, e1, e2, owns_base e3 hb⟩⟩
theorem OwnPrg.fresh {p : Prg} (h : OwnPrg base W v1 v2 v3 p) (hb : Below W.heap.size W W') : OwnPrg base W' v1 v2 v3 p := ⟨owns_fresh h.caps hb, h.codes.fresh hb, h.sites.fresh hb⟩
theorem OwnCodes.slice {l : List (List In)} (h : OwnCodes base W v l) : ∃ a c, v = .slice a l.length c := by obtain ⟨us, h1, _⟩ := h; exact owns_slice h1
theorem OwnSites.slice {l : List Sit} (h : OwnSites base W v l) : ∃ a c, v = .slice a l.length c := by obtain ⟨xs, h1, _⟩ := h; exact owns_slice h1
/-- What is kept where all blocks stay but such as are a program's own. -/
theorem OwnPrg.kept {p : Prg} (h : OwnPrg base W v1 v2 v3 p) (hk : ∀ (j : Nat) (cs : Array Value) (t : TypeId) (z : Nat × Nat), t ≠ 26 → W.heap[j]? = some (.cells cs t z) → W'.heap[j]? = W.heap[j]?) : OwnPrg base W' v1 v2 v3 p := by
  refine ⟨owns_keep h.caps fun j cs z _ hj => hk j cs _ z (by decide) hj, ?_, ?_⟩
  · obtain ⟨us, h1, h2⟩ := h.codes
    exact ⟨us, owns_keep h1 fun j cs z _ hj => hk j cs _ z (by decide) hj, fun k u x hu hx => owns_keep (h2 k u x hu hx) fun j cs z _ hj => hk j cs _ z (by decide) hj⟩
  · obtain ⟨xs, h1, h2⟩ := h.sites
    exact ⟨xs, owns_keep h1 fun j cs z _ hj => hk j cs _ z (by decide) hj, fun k x hx => by obtain ⟨u, e1, e2, e3⟩ := h2 k x hx; exact ⟨u, e1, e2, owns_keep e3 fun j cs z _ hj => hk j cs _ z (by decide) hj⟩⟩
/-- What the numbers, instructions and cases of a program may be. -/
structure Fit (p : Prg) : Prop where
  caps : ∀ x ∈ p.caps, I64b x
  codes : ∀ c ∈ p.codes, ∀ x ∈ c, x.ok
  sites : ∀ s ∈ p.sites, ∀ x ∈ s.cs, x.ok
theorem PrgAt.fit {lo hi : Nat} {p : Prg} (h : PrgAt lo hi W v1 v2 v3 p) : Fit p := by
  refine ⟨h.caps.2, fun c hc => ?_, fun s hs => ?_⟩
  · obtain ⟨vs, h1, h2⟩ := h.codes
    obtain ⟨k, hk, rfl⟩ := List.mem_iff_getElem.1 hc
    exact (h2 k _ _ (List.getElem?_eq_getElem (by have := h1.1; omega)) (List.getElem?_eq_getElem hk)).2
  · obtain ⟨vs, h0, h1, h2⟩ := h.sites
    obtain ⟨k, hk, rfl⟩ := List.mem_iff_getElem.1 hs
    exact (h2 k _ _ (List.getElem?_eq_getElem (by omega)) (List.getElem?_eq_getElem hk)).2
theorem siteCells_of {l : List Sit} {xs : List Value} (hl : xs.length = l.length * 2) (h : ∀ (k : Nat) (x : Sit), l[k]? = some x → xs[k * 2 + 1]? = some (.bool x.d)) :
    siteCells ((List.range l.length).map fun k => xs[k * 2]?.getD undef) l = xs := by
  have hz : ((((List.range l.length).map fun k => xs[k * 2]?.getD undef).zip l).flatMap fun p : Value × Sit => [p.1, Value.bool p.2.d]).length = l.length * 2 := by
    rw [flat_len (fun p : Value × Sit => [p.1, Value.bool p.2.d]) 2 (fun _ => rfl)]; simp
  refine List.ext_getElem? fun i => ?_
  by_cases hi : i < l.length * 2
  · obtain ⟨k, j, hj, rfl⟩ : ∃ k j, j < 2 ∧ i = k * 2 + j := ⟨i / 2, i % 2, by omega, by omega⟩
    have hk : k < l.length := by omega
    rw [siteCells, flat_get (fun p : Value × Sit => [p.1, Value.bool p.2.d]) 2 (fun _ => rfl) _ k j hj, List.getElem?_eq_getElem (by simp; omega)]
    rcases (by omega : j = 0 ∨ j = 1) with rfl | rfl
    · simp only [Option.bind_some, List.getElem_zip, List.getElem_map, List.getElem_range, Nat.add_zero, List.getElem?_cons_zero]
      rw [List.getElem?_eq_getElem (by omega)]; rfl
    · simp only [Option.bind_some, List.getElem_zip, List.getElem?_cons_succ, List.getElem?_cons_zero]
      exact (h k _ (List.getElem?_eq_getElem hk)).symm
  · rw [List.getElem?_eq_none (by unfold siteCells; omega), List.getElem?_eq_none (by omega)]
theorem OwnPrg.at {p : Prg} (h : OwnPrg base W v1 v2 v3 p) (hf : Fit p) : PrgAt base W.heap.size W v1 v2 v3 p := by
  refine ⟨Nat.le_refl _, ⟨Flat.of_owns h.caps, hf.caps⟩, ?_, ?_⟩
  · obtain ⟨us, h1, h2⟩ := h.codes
    exact ⟨us, Flat.of_owns h1, fun k u x hu hx => ⟨Flat.of_owns (h2 k u x hu hx), hf.codes x (List.mem_of_getElem? hx)⟩⟩
  · obtain ⟨xs, h1, h2⟩ := h.sites
    refine ⟨(List.range p.sites.length).map fun k => xs[k * 2]?.getD undef, by simp, ?_, fun k u x hu hx => ?_⟩
    · rw [siteCells_of h1.1 (fun k x hx => by obtain ⟨u, _, e, _⟩ := h2 k x hx; exact e)]
      exact Flat.of_owns h1
    · obtain ⟨u', e1, _, e3⟩ := h2 k x hx
      have hk := (List.getElem?_eq_some_iff.1 hx).1
      rw [List.getElem?_map, List.getElem?_range hk, Option.map_some, e1] at hu
      simp only [Option.getD_some, Option.some.injEq] at hu
      subst hu
      exact ⟨Flat.of_owns e3, hf.sites x (List.mem_of_getElem? hx)⟩
end

set_option linter.unusedSimpArgs false in
set_option maxHeartbeats 1600000 in
theorem copy_any {lo hi : Nat} {v1 v2 v3 : Value} {p : Prg} (w : World) (h : PrgAt lo hi w v1 v2 v3 p) (hs : Small p) :
    Calls Try.prog 16 #[.agg #[v1, v2, v3]] w fun e w' => ∃ u1 u2 u3, e = .returned (.agg #[u1, u2, u3]) ∧ OwnPrg w.heap.size w' u1 u2 u3 p ∧ Below w.heap.size w w' := by
  obtain ⟨a1, c1, rfl⟩ := h.caps.slice
  obtain ⟨a2, c2, rfl⟩ := h.codes.slice
  obtain ⟨a3, c3, rfl⟩ := h.sites.slice
  have hb := below2 w (.cells #[.slice a1 p.caps.length c1, .slice a2 p.codes.length c2, .slice a3 p.sites.length c3] 26) (.cells #[.slice none 0 0, .slice none 0 0, .slice none 0 0] 26)
  obtain ⟨W, hW⟩ : ∃ W, W = (w.alloc (.cells #[.slice a1 p.caps.length c1, .slice a2 p.codes.length c2, .slice a3 p.sites.length c3] 26)).alloc (.cells #[.slice none 0 0, .slice none 0 0, .slice none 0 0] 26) := ⟨_, rfl⟩
  have z0 : Blk W w.heap.size 26 #[.slice a1 p.caps.length c1, .slice a2 p.codes.length c2, .slice a3 p.sites.length c3] := by rw [hW]; exact (blk_new w _ _).alloc _
  have z1 : Blk W (w.heap.size + 1) 26 #[.slice none 0 0, .slice none 0 0, .slice none 0 0] := by have := blk_new (w.alloc (.cells #[.slice a1 p.caps.length c1, .slice a2 p.codes.length c2, .slice a3 p.sites.length c3] 26)) 26 #[.slice none 0 0, .slice none 0 0, .slice none 0 0]; rw [World.size_alloc] at this; rw [hW]; exact this
  rw [← hW] at hb
  have hP := h.stay (stay_below' hb.drew h.top) (Nat.le_trans h.top hb.size)
  have hz : w.heap.size ≤ W.heap.size := hb.size
  have s0 : W.cell? ⟨w.heap.size, 0, none⟩ = some (.slice a1 p.caps.length c1) := z0.cell rfl
  have s1 : W.cell? ⟨w.heap.size, 1, none⟩ = some (.slice a2 p.codes.length c2) := z0.cell rfl
  have s2 : W.cell? ⟨w.heap.size, 2, none⟩ = some (.slice a3 p.sites.length c3) := z0.cell rfl
  go_enter Try.func16, Try.ntmps16
  go_wp2_with fail
  rw [← hW]
  have HW := Lib.hid hW
  clear hW
  refine wp_region_pan (R := fun _ _ => False) (fun _ _ _ _ h => h.elim) ?_
  refine wp_region_held_drew (S := fun w' => w'.cell? ⟨w.heap.size, 0, none⟩ = some (.slice a1 p.caps.length c1) ∧ w'.cell? ⟨w.heap.size, 1, none⟩ = some (.slice a2 p.codes.length c2) ∧ w'.cell? ⟨w.heap.size, 2, none⟩ = some (.slice a3 p.sites.length c3)) (by kernel_rfl) ⟨s0, s1, s2⟩ (fun hHeld => ?_)
  refine wpAnyH_take (i := 0) (v := .pointer (some ⟨w.heap.size, 0, none⟩)) rfl (by kernel_rfl) (by kernel_rfl) (by kernel_rfl) (fun _ _ _ h => h) (Or.inl ⟨by rfl, ?_⟩) hHeld ?_
  · intro w' hSw
    obtain ⟨x0, x1, x2⟩ := hSw
    go_simp
  try simp only [Act.put, List.setIfInBounds_toArray, List.set_cons_zero, List.set_cons_succ]
  refine wpAnyH_take (i := 1) (v := .slice a1 p.caps.length c1) rfl (by kernel_rfl) (by kernel_rfl) (by kernel_rfl) (fun _ _ _ h => h) (Or.inl ⟨by rfl, ?_⟩) hHeld ?_
  · intro w' hSw
    obtain ⟨x0, x1, x2⟩ := hSw
    go_simp
  try simp only [Act.put, List.setIfInBounds_toArray, List.set_cons_zero, List.set_cons_succ]
  refine wpAnyH_take (i := 3) (v := .pointer (some ⟨w.heap.size, 1, none⟩)) rfl (by kernel_rfl) (by kernel_rfl) (by kernel_rfl) (fun _ _ _ h => h) (Or.inl ⟨by rfl, ?_⟩) hHeld ?_
  · intro w' hSw
    obtain ⟨x0, x1, x2⟩ := hSw
    go_simp
  try simp only [Act.put, List.setIfInBounds_toArray, List.set_cons_zero, List.set_cons_succ]
  refine wpAnyH_take (i := 4) (v := .slice a2 p.codes.length c2) rfl (by kernel_rfl) (by kernel_rfl) (by kernel_rfl) (fun _ _ _ h => h) (Or.inl ⟨by rfl, ?_⟩) hHeld ?_
  · intro w' hSw
    obtain ⟨x0, x1, x2⟩ := hSw
    go_simp
  try simp only [Act.put, List.setIfInBounds_toArray, List.set_cons_zero, List.set_cons_succ]
  refine wpAnyH_take (i := 6) (v := .pointer (some ⟨w.heap.size, 2, none⟩)) rfl (by kernel_rfl) (by kernel_rfl) (by kernel_rfl) (fun _ _ _ h => h) (Or.inl ⟨by rfl, ?_⟩) hHeld ?_
  · intro w' hSw
    obtain ⟨x0, x1, x2⟩ := hSw
    go_simp
  try simp only [Act.put, List.setIfInBounds_toArray, List.set_cons_zero, List.set_cons_succ]
  refine wpAnyH_take (i := 7) (v := .slice a3 p.sites.length c3) rfl (by kernel_rfl) (by kernel_rfl) (by kernel_rfl) (fun _ _ _ h => h) (Or.inl ⟨by rfl, ?_⟩) hHeld ?_
  · intro w' hSw
    obtain ⟨x0, x1, x2⟩ := hSw
    go_simp
  try simp only [Act.put, List.setIfInBounds_toArray, List.set_cons_zero, List.set_cons_succ]
  refine wpAnyH_ready (rs := [2]) (by kernel_rfl) (by simp) ?_
  refine AllReadyH.cons rfl (fun K hKK => ?_) AllReadyH.nil
  go_simp
  refine (cloneInt_any W.drew hP.caps.1 hP.top (int_one _) hs.caps).mono ?_
  rintro e w2 ⟨u2, rfl, o2, hb2⟩
  obtain ⟨x2, y2, rfl⟩ := owns_slice o2
  refine hKK.out _ _ ⟨keepB hb2 hHeld.1, keepB hb2 hHeld.2.1, keepB hb2 hHeld.2.2⟩ (fun hHeld => ?_)
  clear hKK K
  try simp only [Act.put, List.setIfInBounds_toArray, List.set_cons_zero, List.set_cons_succ]
  have hP2 := hP.later hb2
  refine wpAnyH_ready (rs := [5]) (by kernel_rfl) (by simp) ?_
  refine AllReadyH.cons rfl (fun K hKK => ?_) AllReadyH.nil
  go_simp
  refine (copyCodes_any w2 hP2.codes hP2.top hs.codes hs.code).mono ?_
  rintro e w3 ⟨u5, rfl, o3, hb3⟩
  obtain ⟨x5, y5, rfl⟩ := o3.slice
  refine hKK.out _ _ ⟨keepB hb3 hHeld.1, keepB hb3 hHeld.2.1, keepB hb3 hHeld.2.2⟩ (fun hHeld => ?_)
  clear hKK K
  try simp only [Act.put, List.setIfInBounds_toArray, List.set_cons_zero, List.set_cons_succ]
  have hP3 := hP2.later hb3
  refine wpAnyH_ready (rs := [8]) (by kernel_rfl) (by simp) ?_
  refine AllReadyH.cons rfl (fun K hKK => ?_) AllReadyH.nil
  go_simp
  refine (copySites_any w3 hP3.sites hP3.top hs.sites hs.site).mono ?_
  rintro e w4 ⟨u8, rfl, o4, hb4⟩
  obtain ⟨x8, y8, rfl⟩ := o4.slice
  refine hKK.out _ _ ⟨keepB hb4 hHeld.1, keepB hb4 hHeld.2.1, keepB hb4 hHeld.2.2⟩ (fun hHeld => ?_)
  clear hKK K
  try simp only [Act.put, List.setIfInBounds_toArray, List.set_cons_zero, List.set_cons_succ]
  refine wpAnyH_take (i := 9) (v := .agg #[.slice x2 p.caps.length y2, .slice x5 p.codes.length y5, .slice x8 p.sites.length y8]) rfl (by kernel_rfl) (by kernel_rfl) (by kernel_rfl) (fun _ _ _ h => h) (Or.inl ⟨by rfl, ?_⟩) hHeld ?_
  · intro w' hSw
    obtain ⟨x0, x1, x2⟩ := hSw
    go_simp
  try simp only [Act.put, List.setIfInBounds_toArray, List.set_cons_zero, List.set_cons_succ]
  have q23 := below_next hb2 hb3 (Nat.le_refl _)
  have q24 := below_next q23 hb4 (Nat.le_refl _)
  have q34 := below_next hb3 hb4 (Nat.le_refl _)
  have m2 : w.heap.size ≤ w2.heap.size := Nat.le_trans hz hb2.size
  have m3 : w.heap.size ≤ w3.heap.size := Nat.le_trans m2 hb3.size
  have y1 := z1.drew.later (W' := w4) q24 z1.lt
  have t0 : w4.cell? ⟨w.heap.size + 1, 0, none⟩ = some (.slice none 0 0) := y1.cell rfl
  have t1 : w4.cell? ⟨w.heap.size + 1, 1, none⟩ = some (.slice none 0 0) := y1.cell rfl
  have t2 : w4.cell? ⟨w.heap.size + 1, 2, none⟩ = some (.slice none 0 0) := y1.cell rfl
  have g0 := y1.frozen 0
  have g1 := y1.frozen 1
  have g2 := y1.frozen 2
  refine wpAnyH_ready (rs := [10]) (by kernel_rfl) (by simp) ?_
  refine AllReadyH.cons rfl (fun K hKK => ?_) AllReadyH.nil
  go_simp
  have k2 := ((y1.set 0 (.slice x2 p.caps.length y2)).set 1 (.slice x5 p.codes.length y5)).set 2 (.slice x8 p.sites.length y8)
  have hbt : But [w.heap.size + 1] w4 (((w4.setCell ⟨w.heap.size + 1, 0, none⟩ (.slice x2 p.caps.length y2)).setCell ⟨w.heap.size + 1, 1, none⟩ (.slice x5 p.codes.length y5)).setCell ⟨w.heap.size + 1, 2, none⟩ (.slice x8 p.sites.length y8)) := (((But.refl _ w4).set (p := ⟨w.heap.size + 1, 0, none⟩) (.inl (by simp)) _).set (p := ⟨w.heap.size + 1, 1, none⟩) (.inl (by simp)) _).set (p := ⟨w.heap.size + 1, 2, none⟩) (.inl (by simp)) _
  have q0 : (((w4.setCell ⟨w.heap.size + 1, 0, none⟩ (.slice x2 p.caps.length y2)).setCell ⟨w.heap.size + 1, 1, none⟩ (.slice x5 p.codes.length y5)).setCell ⟨w.heap.size + 1, 2, none⟩ (.slice x8 p.sites.length y8)).cell? ⟨w.heap.size + 1, 0, none⟩ = some (.slice x2 p.caps.length y2) := k2.cell rfl
  have q1 : (((w4.setCell ⟨w.heap.size + 1, 0, none⟩ (.slice x2 p.caps.length y2)).setCell ⟨w.heap.size + 1, 1, none⟩ (.slice x5 p.codes.length y5)).setCell ⟨w.heap.size + 1, 2, none⟩ (.slice x8 p.sites.length y8)).cell? ⟨w.heap.size + 1, 1, none⟩ = some (.slice x5 p.codes.length y5) := k2.cell rfl
  have q2 : (((w4.setCell ⟨w.heap.size + 1, 0, none⟩ (.slice x2 p.caps.length y2)).setCell ⟨w.heap.size + 1, 1, none⟩ (.slice x5 p.codes.length y5)).setCell ⟨w.heap.size + 1, 2, none⟩ (.slice x8 p.sites.length y8)).cell? ⟨w.heap.size + 1, 2, none⟩ = some (.slice x8 p.sites.length y8) := k2.cell rfl
  have hfin : Below w.heap.size w (((w4.setCell ⟨w.heap.size + 1, 0, none⟩ (.slice x2 p.caps.length y2)).setCell ⟨w.heap.size + 1, 1, none⟩ (.slice x5 p.codes.length y5)).setCell ⟨w.heap.size + 1, 2, none⟩ (.slice x8 p.sites.length y8)) := (below_next hb.drew q24 (Nat.le_refl _)).trans (hbt.below (Nat.le_trans m3 hb4.size) (by simp))
  have hown : OwnPrg w.heap.size (((w4.setCell ⟨w.heap.size + 1, 0, none⟩ (.slice x2 p.caps.length y2)).setCell ⟨w.heap.size + 1, 1, none⟩ (.slice x5 p.codes.length y5)).setCell ⟨w.heap.size + 1, 2, none⟩ (.slice x8 p.sites.length y8)) (.slice x2 p.caps.length y2) (.slice x5 p.codes.length y5) (.slice x8 p.sites.length y8) p :=
    OwnPrg.kept ⟨owns_base (owns_fresh o2 q34) hz, (o3.lower m2).fresh hb4, o4.lower m3⟩ (fun j cs t z ht hj => hbt.block j (Array.getElem?_eq_some_iff.1 hj).1 (by
      simp only [List.mem_singleton]
      rintro rfl
      rw [show w4.heap[w.heap.size + 1]? = _ from y1] at hj
      simp only [Option.some.injEq, Obj.cells.injEq] at hj
      exact ht hj.2.1.symm))
  refine hKK.out _ _ ⟨hbt.cell hHeld.1 (by simp), hbt.cell hHeld.2.1 (by simp), hbt.cell hHeld.2.2 (by simp)⟩ (fun _ => ?_)
  clear hKK K
  refine wpAnyH_done (by kernel_rfl) ?_ _
  simp only [PanOnly, Act.put, List.setIfInBounds_toArray, List.set_cons_zero, List.set_cons_succ]
  generalize ((w4.setCell ⟨w.heap.size + 1, 0, none⟩ (.slice x2 p.caps.length y2)).setCell ⟨w.heap.size + 1, 1, none⟩ (.slice x5 p.codes.length y5)).setCell ⟨w.heap.size + 1, 2, none⟩ (.slice x8 p.sites.length y8) = w5 at q0 q1 q2 hfin hown ⊢
  clear hbt k2
  go_wp2_with fail
  refine bodyPost_ret (v := .agg #[.slice x2 p.caps.length y2, .slice x5 p.codes.length y5, .slice x8 p.sites.length y8]) (by simp [results, Try.f16, go_sem, q0, q1, q2]) rfl ?_
  exact ⟨_, _, _, rfl, hown, hfin⟩
end Go.Proofs.Ytamkmmpockmpfaa
