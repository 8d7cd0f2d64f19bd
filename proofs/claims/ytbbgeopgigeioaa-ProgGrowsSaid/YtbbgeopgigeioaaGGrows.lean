/-
  The walk of the law ProgGrows.
-/
import Derived.Test.YtbbgeopgigeioaaGApp
namespace Go.Proofs.Ytbbgeopgigeioaa
open Go.RowKit

theorem more_caps {lo hi base : Nat} {w W : World} {v1 v2 v3 v : Value} {p : Prg} (h : PrgAt lo hi w v1 v2 v3 p) (hb : Below w.heap.size w W) {m : Int} (ho : W.ownsRow base 3 1 v (p.caps.length + 1) (I64 p.caps ++ [.int .i64 m])) (hm : I64b m) :
    PrgAt 0 W.heap.size W v v2 v3 { p with caps := p.caps ++ [m] } := by
  have k := h.later hb
  refine ⟨Nat.le_refl _, ⟨?_, fun x hx => ?_⟩, k.codes.wider (Nat.zero_le _) k.top, k.sites.wider (Nat.zero_le _) k.top⟩
  · have := (Flat.of_owns ho).wider (Nat.zero_le _) (Nat.le_refl _)
    simpa [I64] using this
  · rcases List.mem_append.1 hx with hx | hx
    · exact h.caps.2 x hx
    · simp only [List.mem_singleton] at hx; subst hx; exact hm
theorem site_app {vs : List Value} {l : List Sit} (hl : vs.length = l.length) (u : Value) (s : Sit) : siteCells (vs ++ [u]) (l ++ [s]) = siteCells vs l ++ [u, .bool s.d] := by
  unfold siteCells
  rw [List.zip_append hl, List.flatMap_append]
  rfl
def caseN : Cas := ⟨false, -1, 0, 0⟩
def siteN : Sit := ⟨[caseN], false⟩
def endN : In := ⟨10, 0, 0, 0, 0⟩
theorem caseN_ok : ∀ x ∈ [caseN], x.ok := by
  intro x hx
  obtain rfl := List.mem_singleton.1 hx
  exact ⟨⟨by decide, by decide⟩, ⟨by decide, by decide⟩, ⟨by decide, by decide⟩⟩
theorem endN_ok : ∀ x ∈ [endN], x.ok := by
  intro x hx
  obtain rfl := List.mem_singleton.1 hx
  exact ⟨by decide, ⟨by decide, by decide⟩, ⟨by decide, by decide⟩, ⟨by decide, by decide⟩, ⟨by decide, by decide⟩⟩
theorem more_sites {lo hi base B : Nat} {w W : World} {v1 v2 v3 v : Value} {p : Prg} {ss : List Value} (h : PrgAt lo hi w v1 v2 v3 p) (hb : Below w.heap.size w W) (hsl : ss.length = p.sites.length)
    (hsc : ∀ (k : Nat) (u : Value) (x : Sit), ss[k]? = some u → p.sites[k]? = some x → CasesAt lo hi w u x.cs)
    (ho : W.ownsRow base 44 2 v (p.sites.length + 1) (siteCells ss p.sites ++ [.slice (some ⟨B, 0, none⟩) 1 1, .bool false]))
    (hB : Blk W B 41 ([.bool false, .int .i64 (-1), .int .i64 0, .int .i64 0] : List Value).toArray) :
    PrgAt 0 W.heap.size W v1 v2 v { p with sites := p.sites ++ [siteN] } := by
  have k := h.later hb
  refine ⟨Nat.le_refl _, k.caps.wider (Nat.zero_le _) k.top, k.codes.wider (Nat.zero_le _) k.top, ss ++ [.slice (some ⟨B, 0, none⟩) 1 1], by simp [hsl], ?_, fun j u x hu hx => ?_⟩
  · rw [site_app hsl]
    have := (Flat.of_owns ho).wider (Nat.zero_le _) (Nat.le_refl _)
    simpa [siteN] using this
  · by_cases hj : j < p.sites.length
    · rw [List.getElem?_append_left (by omega)] at hu hx
      exact ((hsc j u x hu hx).stay (stay_below' hb h.top)).wider (Nat.zero_le _) (Nat.le_trans h.top hb.size)
    · have e1 : j = p.sites.length := by have := (List.getElem?_eq_some_iff.1 hx).1; simp at this; omega
      subst e1
      rw [List.getElem?_append_right (by omega)] at hu hx
      simp [hsl] at hu hx
      subst hu hx
      exact ⟨flat_one hB rfl, caseN_ok⟩
theorem more_codes {lo hi base B : Nat} {w W : World} {v1 v2 v3 v : Value} {p : Prg} {cs : List Value} (h : PrgAt lo hi w v1 v2 v3 p) (hb : Below w.heap.size w W) (hcl : cs.length = p.codes.length)
    (hcc : ∀ (k : Nat) (u : Value) (x : List In), cs[k]? = some u → p.codes[k]? = some x → CodeAt lo hi w u x)
    (ho : W.ownsRow base 32 1 v (p.codes.length + 1) (cs ++ [.slice (some ⟨B, 0, none⟩) 1 1]))
    (hB : Blk W B 34 ([.int .u8 10, .int .i64 0, .int .i64 0, .int .i64 0, .int .i64 0] : List Value).toArray) :
    PrgAt 0 W.heap.size W v1 v v3 { p with codes := p.codes ++ [[endN]] } := by
  have k := h.later hb
  refine ⟨Nat.le_refl _, k.caps.wider (Nat.zero_le _) k.top, ⟨cs ++ [.slice (some ⟨B, 0, none⟩) 1 1], ?_, fun j u x hu hx => ?_⟩, k.sites.wider (Nat.zero_le _) k.top⟩
  · have := (Flat.of_owns ho).wider (Nat.zero_le _) (Nat.le_refl _)
    simpa using this
  · by_cases hj : j < p.codes.length
    · rw [List.getElem?_append_left (by omega)] at hu hx
      exact ((hcc j u x hu hx).stay (stay_below' hb h.top)).wider (Nat.zero_le _) (Nat.le_trans h.top hb.size)
    · have e1 : j = p.codes.length := by have := (List.getElem?_eq_some_iff.1 hx).1; simp at this; omega
      subst e1
      rw [List.getElem?_append_right (by omega)] at hu hx
      simp [hcl] at hu hx
      subst hu hx
      exact ⟨flat_one hB rfl, endN_ok⟩
theorem grown_new (w : World) (o : Obj) : Below w.heap.size w (w.alloc o) := (Below.refl _ w).alloc (Nat.le_refl _) o
set_option linter.unusedSimpArgs false in
set_option maxRecDepth 100000 in
set_option maxHeartbeats 6400000 in
theorem grows_any {lo hi : Nat} {v1 v2 v3 : Value} {p : Prg} (w : World) (h : PrgAt lo hi w v1 v2 v3 p) (most : Int) (hm0 : 0 ≤ most) (hm1 : most < 256) :
    Calls Try.prog 4 #[.agg #[v1, v2, v3], .int .u8 most] w fun e w' => e = .returned (.bool true) ∧ Below w.heap.size w w' := by
  obtain ⟨a1, c1, rfl⟩ := h.caps.slice
  obtain ⟨a2, c2, rfl⟩ := h.codes.slice
  obtain ⟨a3, c3, rfl⟩ := h.sites.slice
  obtain ⟨cs, hcf, hcc⟩ := id h.codes
  obtain ⟨ss, hsl, hsf, hsc⟩ := id h.sites
  have hcl : cs.length = p.codes.length := by have := hcf.1; omega
  have hmm : Int.tmod most 9 = most % 9 := Int.tmod_eq_emod_of_nonneg hm0
  have hmw : IntKind.i64.wrap most = most := by rw [IntKind.wrap_i64]; omega
  have hmw2 : IntKind.i64.wrap (most % 9) = most % 9 := by rw [IntKind.wrap_i64]; omega
  have hb0 : Below w.heap.size w (w.alloc (.cells #[.slice a1 p.caps.length c1, .slice a2 p.codes.length c2, .slice a3 p.sites.length c3] 26)) := (Below.refl _ w).alloc (Nat.le_refl _) _
  have hk0 := blk_new w 26 #[.slice a1 p.caps.length c1, .slice a2 p.codes.length c2, .slice a3 p.sites.length c3]
  have hlong := long_any _ (h.later hb0)
  go_enter Try.func4, Try.ntmps4
  go_wp2_with fail
  refine hlong.mono ?_
  rintro e w1 ⟨b, rfl, hT, hb1⟩
  have hB1 := below_next hb0 hb1 (Nat.le_refl _)
  have hK1 := hk0.later hb1 hk0.lt
  clear hb0 hk0 hlong hb1
  cases b with
  | true =>
    go_wp2_with fail
    refine (alive_any _).mono ?_
    rintro e w2 ⟨rfl, hb2⟩
    go_wp2_with fail
    go_ret
    exact ⟨rfl, below_next hB1 hb2 (Nat.le_refl _)⟩
  | false =>
    have hT1 := hT rfl
    have hs := hT1.small
    clear hT
    have e0 : w1.cell? ⟨w.heap.size, 0, none⟩ = some (.slice a1 p.caps.length c1) := hK1.cell rfl
    have e1 : w1.cell? ⟨w.heap.size, 1, none⟩ = some (.slice a2 p.codes.length c2) := hK1.cell rfl
    have e2 : w1.cell? ⟨w.heap.size, 2, none⟩ = some (.slice a3 p.sites.length c3) := hK1.cell rfl
    have hck := progCheck_any w1 (h.later hB1) hs
    obtain ⟨u, v, z, ht⟩ : ∃ u v z, checkT p = (u, v, z) := ⟨_, _, _, rfl⟩
    have hz : z = 0 ↔ checkW p = none := by rw [← check_zero, ht]
    rw [ht] at hck
    simp only at hck
    clear ht
    go_wp2_with fail
    refine hck.mono ?_
    rintro e w2 ⟨rfl, hb2⟩
    have hB2 := below_next hB1 hb2 (Nat.le_refl _)
    have hK2 := hK1.later hb2 hK1.lt
    clear hck e0 e1 e2 hb2 hK1 hB1
    by_cases hz0 : z = 0
    rotate_left 1
    · have hz1 : (z != 0) = true := by simpa using hz0
      go_wp2_with fail
      refine (alive_any _).mono ?_
      rintro e w3 ⟨rfl, hb3⟩
      go_wp2_with fail
      go_ret
      exact ⟨rfl, below_next hB2 hb3 (Nat.le_refl _)⟩
    subst hz0
    have HC := Lib.hid (hz.1 rfl)
    clear hz
    have hP2 := h.later hB2
    have e0 : w2.cell? ⟨w.heap.size, 0, none⟩ = some (.slice a1 p.caps.length c1) := hK2.cell rfl
    have e1 : w2.cell? ⟨w.heap.size, 1, none⟩ = some (.slice a2 p.codes.length c2) := hK2.cell rfl
    have e2 : w2.cell? ⟨w.heap.size, 2, none⟩ = some (.slice a3 p.sites.length c3) := hK2.cell rfl
    go_wp2_with fail
    refine (copy_any w2 hP2 hs).mono ?_
    rintro e w3 ⟨u1, u2, u3, rfl, ho, hb3⟩
    have hB3 := below_next hB2 hb3 (Nat.le_refl _)
    have hK3 := hK2.later hb3 hK2.lt
    have hP3 := hP2.later hb3
    have hQ3 := ho.at hP3.fit
    have hbn : Below w3.heap.size w3 (w3.alloc (.cells #[u1, u2, u3] 26)) := (Below.refl _ w3).alloc (Nat.le_refl _) _
    have hsm := same_any _ (hP3.later hbn) (hQ3.later hbn) hs
    rw [samePrg_refl] at hsm
    obtain ⟨xa, ya, rfl⟩ := hQ3.caps.slice
    obtain ⟨xb, yb, rfl⟩ := hQ3.codes.slice
    obtain ⟨xc, yc, rfl⟩ := hQ3.sites.slice
    clear e0 e1 e2
    obtain ⟨W, hW⟩ : ∃ W, W = w3.alloc (.cells #[.slice xa p.caps.length ya, .slice xb p.codes.length yb, .slice xc p.sites.length yc] 26) := ⟨_, rfl⟩
    have hKW := hK3.later hbn hK3.lt
    have hNW := blk_new w3 26 #[.slice xa p.caps.length ya, .slice xb p.codes.length yb, .slice xc p.sites.length yc]
    rw [← hW] at hsm hbn hKW hNW
    have e0 : W.cell? ⟨w.heap.size, 0, none⟩ = some (.slice a1 p.caps.length c1) := hKW.cell rfl
    have e1 : W.cell? ⟨w.heap.size, 1, none⟩ = some (.slice a2 p.codes.length c2) := hKW.cell rfl
    have e2 : W.cell? ⟨w.heap.size, 2, none⟩ = some (.slice a3 p.sites.length c3) := hKW.cell rfl
    have f0 : W.cell? ⟨w3.heap.size, 0, none⟩ = some (.slice xa p.caps.length ya) := hNW.cell rfl
    have f1 : W.cell? ⟨w3.heap.size, 1, none⟩ = some (.slice xb p.codes.length yb) := hNW.cell rfl
    have f2 : W.cell? ⟨w3.heap.size, 2, none⟩ = some (.slice xc p.sites.length yc) := hNW.cell rfl
    rw [hW] at e0 e1 e2 f0 f1 f2 hsm
    go_wp2_with fail
    refine hsm.mono ?_
    rintro e w4 ⟨rfl, hb4⟩
    rw [← hW] at hb4
    have hB4 := below_next (below_next hB3 hbn (Nat.le_refl _)) hb4 (Nat.le_refl _)
    have hK4 := hKW.later hb4 hKW.lt
    clear e0 e1 e2 f0 f1 f2 hsm hbn hW hKW hNW hb4 hQ3 hP3 hK3 hB3 hb3 ho hP2 hK2 hB2
    go_wp2_with fail
    have hk9 := hK4.drew
    have hB9 := hB4.drew
    obtain ⟨i9, hi9, hx9, hy9, hz9⟩ := info_parts infoInt
    refine wp_region_pan (R := fun _ _ => False) (fun _ _ _ _ h => h.elim) ?_
    refine wp_region_held_drew (S := fun w' => w'.cell? ⟨w.heap.size, 0, none⟩ = some (.slice a1 p.caps.length c1) ∧ w'.cell? ⟨w.heap.size, 1, none⟩ = some (.slice a2 p.codes.length c2) ∧ w'.cell? ⟨w.heap.size, 2, none⟩ = some (.slice a3 p.sites.length c3)) (by kernel_rfl) ⟨hk9.cell rfl, hk9.cell rfl, hk9.cell rfl⟩ (fun hHeld => ?_)
    generalize w4.drew = wd9 at hk9 hB9 hHeld ⊢
    clear hK4 hB4
    have hS9 : ∀ w', Below wd9.heap.size wd9 w' → w'.cell? ⟨w.heap.size, 0, none⟩ = some (.slice a1 p.caps.length c1) ∧ w'.cell? ⟨w.heap.size, 1, none⟩ = some (.slice a2 p.codes.length c2) ∧ w'.cell? ⟨w.heap.size, 2, none⟩ = some (.slice a3 p.sites.length c3) := fun w' hb => by
      have x := hk9.on hb
      exact ⟨x.cell rfl, x.cell rfl, x.cell rfl⟩
    refine takeD (i := 0) (d := some 39) (v := .pointer (some ⟨w.heap.size, 0, none⟩)) (by kernel_rfl) (by kernel_rfl) (by kernel_rfl) (by kernel_rfl) (fun _ _ _ h => h) (fun oi h => ?_) hHeld ?_
    · simp only [List.getElem?_toArray, List.getElem?_cons_succ, List.getElem?_cons_zero, Option.some.injEq] at h
      subst h
      refine Or.inl ⟨by rfl, fun w' hSw => ?_⟩
      obtain ⟨x0, x1, x2⟩ := hSw
      go_simp
    try simp only [Act.put, List.setIfInBounds_toArray, List.set_cons_zero, List.set_cons_succ]
    refine takeD (i := 1) (d := some 40) (v := .slice a1 p.caps.length c1) (by kernel_rfl) (by kernel_rfl) (by kernel_rfl) (by kernel_rfl) (fun _ _ _ h => h) (fun oi h => ?_) hHeld ?_
    · simp only [List.getElem?_toArray, List.getElem?_cons_succ, List.getElem?_cons_zero, Option.some.injEq] at h
      subst h
      refine Or.inl ⟨by rfl, fun w' hSw => ?_⟩
      obtain ⟨x0, x1, x2⟩ := hSw
      go_simp
    try simp only [Act.put, List.setIfInBounds_toArray, List.set_cons_zero, List.set_cons_succ]
    refine takeD (i := 3) (d := some 42) (v := .int .u8 most) (by kernel_rfl) (by kernel_rfl) (by kernel_rfl) (by kernel_rfl) (fun _ _ _ h => h) (fun oi h => ?_) hHeld ?_
    · simp only [List.getElem?_toArray, List.getElem?_cons_succ, List.getElem?_cons_zero, Option.some.injEq] at h
      subst h
      refine Or.inl ⟨by rfl, fun w' hSw => ?_⟩
      obtain ⟨x0, x1, x2⟩ := hSw
      go_simp
    try simp only [Act.put, List.setIfInBounds_toArray, List.set_cons_zero, List.set_cons_succ]
    refine takeD (i := 4) (d := some 43) (v := .int .i64 most) (by kernel_rfl) (by kernel_rfl) (by kernel_rfl) (by kernel_rfl) (fun _ _ _ h => h) (fun oi h => ?_) hHeld ?_
    · simp only [List.getElem?_toArray, List.getElem?_cons_succ, List.getElem?_cons_zero, Option.some.injEq] at h
      subst h
      refine Or.inl ⟨by rfl, fun w' hSw => ?_⟩
      obtain ⟨x0, x1, x2⟩ := hSw
      go_simp
    try simp only [Act.put, List.setIfInBounds_toArray, List.set_cons_zero, List.set_cons_succ]
    refine takeD (i := 5) (d := some 44) (v := .int .i64 (most % 9)) (by kernel_rfl) (by kernel_rfl) (by kernel_rfl) (by kernel_rfl) (fun _ _ _ h => h) (fun oi h => ?_) hHeld ?_
    · simp only [List.getElem?_toArray, List.getElem?_cons_succ, List.getElem?_cons_zero, Option.some.injEq] at h
      subst h
      refine Or.inl ⟨by rfl, fun w' hSw => ?_⟩
      obtain ⟨x0, x1, x2⟩ := hSw
      go_simp
    try simp only [Act.put, List.setIfInBounds_toArray, List.set_cons_zero, List.set_cons_succ]
    refine takeD (i := 8) (d := some 47) (v := .pointer (some ⟨w.heap.size, 1, none⟩)) (by kernel_rfl) (by kernel_rfl) (by kernel_rfl) (by kernel_rfl) (fun _ _ _ h => h) (fun oi h => ?_) hHeld ?_
    · simp only [List.getElem?_toArray, List.getElem?_cons_succ, List.getElem?_cons_zero, Option.some.injEq] at h
      subst h
      refine Or.inl ⟨by rfl, fun w' hSw => ?_⟩
      obtain ⟨x0, x1, x2⟩ := hSw
      go_simp
    try simp only [Act.put, List.setIfInBounds_toArray, List.set_cons_zero, List.set_cons_succ]
    refine takeD (i := 9) (d := some 48) (v := .slice a2 p.codes.length c2) (by kernel_rfl) (by kernel_rfl) (by kernel_rfl) (by kernel_rfl) (fun _ _ _ h => h) (fun oi h => ?_) hHeld ?_
    · simp only [List.getElem?_toArray, List.getElem?_cons_succ, List.getElem?_cons_zero, Option.some.injEq] at h
      subst h
      refine Or.inl ⟨by rfl, fun w' hSw => ?_⟩
      obtain ⟨x0, x1, x2⟩ := hSw
      go_simp
    try simp only [Act.put, List.setIfInBounds_toArray, List.set_cons_zero, List.set_cons_succ]
    refine takeD (i := 10) (d := some 49) (v := .pointer (some ⟨w.heap.size, 2, none⟩)) (by kernel_rfl) (by kernel_rfl) (by kernel_rfl) (by kernel_rfl) (fun _ _ _ h => h) (fun oi h => ?_) hHeld ?_
    · simp only [List.getElem?_toArray, List.getElem?_cons_succ, List.getElem?_cons_zero, Option.some.injEq] at h
      subst h
      refine Or.inl ⟨by rfl, fun w' hSw => ?_⟩
      obtain ⟨x0, x1, x2⟩ := hSw
      go_simp
    try simp only [Act.put, List.setIfInBounds_toArray, List.set_cons_zero, List.set_cons_succ]
    refine takeD (i := 11) (d := some 50) (v := .slice a3 p.sites.length c3) (by kernel_rfl) (by kernel_rfl) (by kernel_rfl) (by kernel_rfl) (fun _ _ _ h => h) (fun oi h => ?_) hHeld ?_
    · simp only [List.getElem?_toArray, List.getElem?_cons_succ, List.getElem?_cons_zero, Option.some.injEq] at h
      subst h
      refine Or.inl ⟨by rfl, fun w' hSw => ?_⟩
      obtain ⟨x0, x1, x2⟩ := hSw
      go_simp
    try simp only [Act.put, List.setIfInBounds_toArray, List.set_cons_zero, List.set_cons_succ]
    refine wpAnyH_cut (fun a0 a wx => ∃ (va : Value) (B1 : Nat) (vf : Value) (A : Nat), a = (((((a0.put (some 41) va).put (some 45) (.slice (some ⟨B1, 0, none⟩) 1 1)).put (some 46) vf).put (some 51) (.agg #[vf, .slice a2 p.codes.length c2, .slice a3 p.sites.length c3])).put (some 9) (.pointer (some ⟨A, 0, none⟩))) ∧ (Below wd9.heap.size wd9 wx) ∧ (wx.ownsRow wd9.heap.size 3 1 vf (p.caps.length + 1) (I64 p.caps ++ [.int .i64 (most % 9)])) ∧ (wd9.heap.size ≤ A ∧ Blk wx A 26 #[.slice none 0 0, .slice none 0 0, .slice none 0 0])) (f' := 1) (l' := #[true, true, true, true, true, true, true, true, true, true, true, true, true, true, false]) ?_ (fun r9_1111 => ?_)
    rotate_left 1
    · skip
      refine wpAnyH_cut (fun a0 a wx => ∃ (va : Value) (B1 : Nat) (vf : Value), a = ((((a0.put (some 41) va).put (some 45) (.slice (some ⟨B1, 0, none⟩) 1 1)).put (some 46) vf).put (some 51) (.agg #[vf, .slice a2 p.codes.length c2, .slice a3 p.sites.length c3])) ∧ (Below wd9.heap.size wd9 wx) ∧ (wx.ownsRow wd9.heap.size 3 1 vf (p.caps.length + 1) (I64 p.caps ++ [.int .i64 (most % 9)]))) (f' := 2) (l' := #[true, true, true, true, true, true, true, true, true, true, true, true, true, false, false]) ?_ (fun r9_1110 => ?_)
      · rintro a wx ⟨va, B1, vf, rfl, hd, hf⟩
        have hHeld := hS9 wx hd
        simp only [Act.put, List.setIfInBounds_toArray, List.set_cons_zero, List.set_cons_succ]
        refine wpAnyH_ready (rs := [13]) (by kernel_rfl) (by simp) ?_
        refine AllReadyH.cons rfl (fun K hKK => ?_) AllReadyH.nil
        · skip
          go_simp
          refine hKK.out _ _ (hS9 _ (Below.alloc hd hd.size _)) (fun hHeld => ?_)
          clear hKK K
          try simp only [Act.put, List.setIfInBounds_toArray, List.set_cons_zero, List.set_cons_succ]
          refine r9_1111 _ _ ⟨va, B1, vf, wx.heap.size, ?_, Below.alloc hd hd.size _, owns_fresh hf (grown_new wx _), ⟨hd.size, blk_new wx _ _⟩⟩
          simp only [Act.put, List.setIfInBounds_toArray, List.set_cons_zero, List.set_cons_succ]
      refine wpAnyH_cut (fun a0 a wx => ∃ (va : Value) (B1 : Nat) (A : Nat), a = (((a0.put (some 41) va).put (some 45) (.slice (some ⟨B1, 0, none⟩) 1 1)).put (some 9) (.pointer (some ⟨A, 0, none⟩))) ∧ (Below wd9.heap.size wd9 wx) ∧ (wx.ownsRow wd9.heap.size 3 1 va p.caps.length (I64 p.caps)) ∧ (Blk wx B1 3 ([.int .i64 (most % 9)] : List Value).toArray) ∧ (wd9.heap.size ≤ A ∧ Blk wx A 26 #[.slice none 0 0, .slice none 0 0, .slice none 0 0])) (f' := 3) (l' := #[true, true, true, true, true, true, true, false, true, true, true, true, false, true, false]) ?_ (fun r9_1101 => ?_)
      · rintro a wx ⟨va, B1, A, rfl, hd, ho, hb1, hA⟩
        have hHeld := hS9 wx hd
        simp only [Act.put, List.setIfInBounds_toArray, List.set_cons_zero, List.set_cons_succ]
        refine wpAnyH_ready (rs := [7]) (by kernel_rfl) (by simp) ?_
        refine AllReadyH.cons rfl (fun K hKK => ?_) AllReadyH.nil
        · skip
          refine step_app (some 46) (.tmp 41) (.tmp 45) 22 rfl rfl rfl wd9.heap.size 3 Try.underlying22 hi9 hx9 hy9 hz9 rfl (by decide) (by decide) rfl ho rfl (flat_one (s := 1) hb1 rfl) (by simp only [List.mem_cons, List.not_mem_nil, or_false]; intro u hu; rcases hu with rfl <;> rfl) hs.caps (by omega) hd.size ?_
          intro vf wy hf hg
          obtain ⟨xg, yg, rfl⟩ := owns_slice hf
          have hd' := hd.trans (grown_below ho hg hd.size)
          refine hKK.out _ _ (hS9 _ (hd')) (fun hHeld => ?_)
          clear hKK K
          try simp only [Act.put, List.setIfInBounds_toArray, List.set_cons_zero, List.set_cons_succ]
          refine takeD (i := 12) (d := some 51) (v := .agg #[.slice xg (p.caps.length + 1) yg, .slice a2 p.codes.length c2, .slice a3 p.sites.length c3]) (by kernel_rfl) (by kernel_rfl) (by kernel_rfl) (by kernel_rfl) (fun _ _ _ h => h) (fun oi h => ?_) hHeld ?_
          · simp only [List.getElem?_toArray, List.getElem?_cons_succ, List.getElem?_cons_zero, Option.some.injEq] at h
            subst h
            refine Or.inl ⟨by rfl, fun w' hSw => ?_⟩
            obtain ⟨x0, x1, x2⟩ := hSw
            go_simp
          try simp only [Act.put, List.setIfInBounds_toArray, List.set_cons_zero, List.set_cons_succ]
          refine r9_1111 _ _ ⟨va, B1, .slice xg (p.caps.length + 1) yg, A, ?_, hd', hf, ⟨hA.1, grown_other ho hg hA.2 (by decide)⟩⟩
          simp only [Act.put, List.setIfInBounds_toArray, List.set_cons_zero, List.set_cons_succ]
      refine wpAnyH_cut (fun a0 a wx => ∃ (va : Value) (B1 : Nat), a = ((a0.put (some 41) va).put (some 45) (.slice (some ⟨B1, 0, none⟩) 1 1)) ∧ (Below wd9.heap.size wd9 wx) ∧ (wx.ownsRow wd9.heap.size 3 1 va p.caps.length (I64 p.caps)) ∧ (Blk wx B1 3 ([.int .i64 (most % 9)] : List Value).toArray)) (f' := 4) (l' := #[true, true, true, true, true, true, true, false, true, true, true, true, false, false, false]) ?_ (fun r9_1100 => ?_)
      · rintro a wx ⟨va, B1, rfl, hd, ho, hb1⟩
        have hHeld := hS9 wx hd
        simp only [Act.put, List.setIfInBounds_toArray, List.set_cons_zero, List.set_cons_succ]
        refine wpAnyH_ready (rs := [7, 13]) (by kernel_rfl) (by simp) ?_
        refine AllReadyH.cons rfl (fun K hKK => ?_) (AllReadyH.cons rfl (fun K hKK => ?_) AllReadyH.nil)
        · skip
          refine step_app (some 46) (.tmp 41) (.tmp 45) 22 rfl rfl rfl wd9.heap.size 3 Try.underlying22 hi9 hx9 hy9 hz9 rfl (by decide) (by decide) rfl ho rfl (flat_one (s := 1) hb1 rfl) (by simp only [List.mem_cons, List.not_mem_nil, or_false]; intro u hu; rcases hu with rfl <;> rfl) hs.caps (by omega) hd.size ?_
          intro vf wy hf hg
          obtain ⟨xg, yg, rfl⟩ := owns_slice hf
          have hd' := hd.trans (grown_below ho hg hd.size)
          refine hKK.out _ _ (hS9 _ (hd')) (fun hHeld => ?_)
          clear hKK K
          try simp only [Act.put, List.setIfInBounds_toArray, List.set_cons_zero, List.set_cons_succ]
          refine takeD (i := 12) (d := some 51) (v := .agg #[.slice xg (p.caps.length + 1) yg, .slice a2 p.codes.length c2, .slice a3 p.sites.length c3]) (by kernel_rfl) (by kernel_rfl) (by kernel_rfl) (by kernel_rfl) (fun _ _ _ h => h) (fun oi h => ?_) hHeld ?_
          · simp only [List.getElem?_toArray, List.getElem?_cons_succ, List.getElem?_cons_zero, Option.some.injEq] at h
            subst h
            refine Or.inl ⟨by rfl, fun w' hSw => ?_⟩
            obtain ⟨x0, x1, x2⟩ := hSw
            go_simp
          try simp only [Act.put, List.setIfInBounds_toArray, List.set_cons_zero, List.set_cons_succ]
          refine r9_1110 _ _ ⟨va, B1, .slice xg (p.caps.length + 1) yg, ?_, hd', hf⟩
          simp only [Act.put, List.setIfInBounds_toArray, List.set_cons_zero, List.set_cons_succ]
        · skip
          go_simp
          refine hKK.out _ _ (hS9 _ (Below.alloc hd hd.size _)) (fun hHeld => ?_)
          clear hKK K
          try simp only [Act.put, List.setIfInBounds_toArray, List.set_cons_zero, List.set_cons_succ]
          refine r9_1101 _ _ ⟨va, B1, wx.heap.size, ?_, Below.alloc hd hd.size _, owns_fresh ho (grown_new wx _), hb1.alloc _, ⟨hd.size, blk_new wx _ _⟩⟩
          simp only [Act.put, List.setIfInBounds_toArray, List.set_cons_zero, List.set_cons_succ]
      refine wpAnyH_cut (fun a0 a wx => ∃ (B1 : Nat) (A : Nat), a = ((a0.put (some 45) (.slice (some ⟨B1, 0, none⟩) 1 1)).put (some 9) (.pointer (some ⟨A, 0, none⟩))) ∧ (Below wd9.heap.size wd9 wx) ∧ (Blk wx B1 3 ([.int .i64 (most % 9)] : List Value).toArray) ∧ (wd9.heap.size ≤ A ∧ Blk wx A 26 #[.slice none 0 0, .slice none 0 0, .slice none 0 0])) (f' := 4) (l' := #[true, true, false, true, true, true, true, false, true, true, true, true, false, true, false]) ?_ (fun r9_0101 => ?_)
      · rintro a wx ⟨B1, A, rfl, hd, hb1, hA⟩
        have hHeld := hS9 wx hd
        simp only [Act.put, List.setIfInBounds_toArray, List.set_cons_zero, List.set_cons_succ]
        refine wpAnyH_ready (rs := [2]) (by kernel_rfl) (by simp) ?_
        refine AllReadyH.cons rfl (fun K hKK => ?_) AllReadyH.nil
        · skip
          refine step_app (some 41) (.const (.slice none 0 0)) (.tmp 40) 22 rfl rfl rfl wd9.heap.size 3 Try.underlying22 hi9 hx9 hy9 hz9 rfl (by decide) (by decide) rfl (World.ownsRow_nil _ _ _ _) rfl ((h.caps.1).stay (stay_below' (below_next hB9 hd (Nat.le_refl _)) h.top)) (int_one _) (by omega) hs.caps hd.size ?_
          intro va wy ho hg
          rw [List.nil_append, Nat.zero_add] at ho
          have hxy : Below wx.heap.size wx wy := grown_below (World.ownsRow_nil _ _ 3 1) hg (Nat.le_refl _)
          have hd := below_next hd hxy (Nat.le_refl _)
          refine hKK.out _ _ (hS9 _ (hd)) (fun hHeld => ?_)
          clear hKK K
          try simp only [Act.put, List.setIfInBounds_toArray, List.set_cons_zero, List.set_cons_succ]
          refine r9_1101 _ _ ⟨va, B1, A, ?_, hd, ho, hb1.on hxy, ⟨hA.1, hA.2.on hxy⟩⟩
          simp only [Act.put, List.setIfInBounds_toArray, List.set_cons_zero, List.set_cons_succ]
      refine wpAnyH_cut (fun a0 a wx => ∃ (va : Value) (A : Nat), a = ((a0.put (some 41) va).put (some 9) (.pointer (some ⟨A, 0, none⟩))) ∧ (Below wd9.heap.size wd9 wx) ∧ (wx.ownsRow wd9.heap.size 3 1 va p.caps.length (I64 p.caps)) ∧ (wd9.heap.size ≤ A ∧ Blk wx A 26 #[.slice none 0 0, .slice none 0 0, .slice none 0 0])) (f' := 4) (l' := #[true, true, true, true, true, true, false, false, true, true, true, true, false, true, false]) ?_ (fun r9_1001 => ?_)
      · rintro a wx ⟨va, A, rfl, hd, ho, hA⟩
        have hHeld := hS9 wx hd
        simp only [Act.put, List.setIfInBounds_toArray, List.set_cons_zero, List.set_cons_succ]
        refine wpAnyH_ready (rs := [6]) (by kernel_rfl) (by simp) ?_
        refine AllReadyH.cons rfl (fun K hKK => ?_) AllReadyH.nil
        · skip
          go_simp
          refine hKK.out _ _ (hS9 _ (Below.alloc hd hd.size _)) (fun hHeld => ?_)
          clear hKK K
          try simp only [Act.put, List.setIfInBounds_toArray, List.set_cons_zero, List.set_cons_succ]
          refine r9_1101 _ _ ⟨va, wx.heap.size, A, ?_, Below.alloc hd hd.size _, owns_fresh ho (grown_new wx _), blk_new wx _ _, ⟨hA.1, hA.2.alloc _⟩⟩
          simp only [Act.put, List.setIfInBounds_toArray, List.set_cons_zero, List.set_cons_succ]
      refine wpAnyH_cut (fun a0 a wx => ∃ (B1 : Nat), a = (a0.put (some 45) (.slice (some ⟨B1, 0, none⟩) 1 1)) ∧ (Below wd9.heap.size wd9 wx) ∧ (Blk wx B1 3 ([.int .i64 (most % 9)] : List Value).toArray)) (f' := 5) (l' := #[true, true, false, true, true, true, true, false, true, true, true, true, false, false, false]) ?_ (fun r9_0100 => ?_)
      · rintro a wx ⟨B1, rfl, hd, hb1⟩
        have hHeld := hS9 wx hd
        simp only [Act.put, List.setIfInBounds_toArray, List.set_cons_zero, List.set_cons_succ]
        refine wpAnyH_ready (rs := [2, 13]) (by kernel_rfl) (by simp) ?_
        refine AllReadyH.cons rfl (fun K hKK => ?_) (AllReadyH.cons rfl (fun K hKK => ?_) AllReadyH.nil)
        · skip
          refine step_app (some 41) (.const (.slice none 0 0)) (.tmp 40) 22 rfl rfl rfl wd9.heap.size 3 Try.underlying22 hi9 hx9 hy9 hz9 rfl (by decide) (by decide) rfl (World.ownsRow_nil _ _ _ _) rfl ((h.caps.1).stay (stay_below' (below_next hB9 hd (Nat.le_refl _)) h.top)) (int_one _) (by omega) hs.caps hd.size ?_
          intro va wy ho hg
          rw [List.nil_append, Nat.zero_add] at ho
          have hxy : Below wx.heap.size wx wy := grown_below (World.ownsRow_nil _ _ 3 1) hg (Nat.le_refl _)
          have hd := below_next hd hxy (Nat.le_refl _)
          refine hKK.out _ _ (hS9 _ (hd)) (fun hHeld => ?_)
          clear hKK K
          try simp only [Act.put, List.setIfInBounds_toArray, List.set_cons_zero, List.set_cons_succ]
          refine r9_1100 _ _ ⟨va, B1, ?_, hd, ho, hb1.on hxy⟩
          simp only [Act.put, List.setIfInBounds_toArray, List.set_cons_zero, List.set_cons_succ]
        · skip
          go_simp
          refine hKK.out _ _ (hS9 _ (Below.alloc hd hd.size _)) (fun hHeld => ?_)
          clear hKK K
          try simp only [Act.put, List.setIfInBounds_toArray, List.set_cons_zero, List.set_cons_succ]
          refine r9_0101 _ _ ⟨B1, wx.heap.size, ?_, Below.alloc hd hd.size _, hb1.alloc _, ⟨hd.size, blk_new wx _ _⟩⟩
          simp only [Act.put, List.setIfInBounds_toArray, List.set_cons_zero, List.set_cons_succ]
      refine wpAnyH_cut (fun a0 a wx => ∃ (va : Value), a = (a0.put (some 41) va) ∧ (Below wd9.heap.size wd9 wx) ∧ (wx.ownsRow wd9.heap.size 3 1 va p.caps.length (I64 p.caps))) (f' := 5) (l' := #[true, true, true, true, true, true, false, false, true, true, true, true, false, false, false]) ?_ (fun r9_1000 => ?_)
      · rintro a wx ⟨va, rfl, hd, ho⟩
        have hHeld := hS9 wx hd
        simp only [Act.put, List.setIfInBounds_toArray, List.set_cons_zero, List.set_cons_succ]
        refine wpAnyH_ready (rs := [6, 13]) (by kernel_rfl) (by simp) ?_
        refine AllReadyH.cons rfl (fun K hKK => ?_) (AllReadyH.cons rfl (fun K hKK => ?_) AllReadyH.nil)
        · skip
          go_simp
          refine hKK.out _ _ (hS9 _ (Below.alloc hd hd.size _)) (fun hHeld => ?_)
          clear hKK K
          try simp only [Act.put, List.setIfInBounds_toArray, List.set_cons_zero, List.set_cons_succ]
          refine r9_1100 _ _ ⟨va, wx.heap.size, ?_, Below.alloc hd hd.size _, owns_fresh ho (grown_new wx _), blk_new wx _ _⟩
          simp only [Act.put, List.setIfInBounds_toArray, List.set_cons_zero, List.set_cons_succ]
        · skip
          go_simp
          refine hKK.out _ _ (hS9 _ (Below.alloc hd hd.size _)) (fun hHeld => ?_)
          clear hKK K
          try simp only [Act.put, List.setIfInBounds_toArray, List.set_cons_zero, List.set_cons_succ]
          refine r9_1001 _ _ ⟨va, wx.heap.size, ?_, Below.alloc hd hd.size _, owns_fresh ho (grown_new wx _), ⟨hd.size, blk_new wx _ _⟩⟩
          simp only [Act.put, List.setIfInBounds_toArray, List.set_cons_zero, List.set_cons_succ]
      refine wpAnyH_cut (fun a0 a wx => ∃ (A : Nat), a = (a0.put (some 9) (.pointer (some ⟨A, 0, none⟩))) ∧ (Below wd9.heap.size wd9 wx) ∧ (wd9.heap.size ≤ A ∧ Blk wx A 26 #[.slice none 0 0, .slice none 0 0, .slice none 0 0])) (f' := 5) (l' := #[true, true, false, true, true, true, false, false, true, true, true, true, false, true, false]) ?_ (fun r9_0001 => ?_)
      · rintro a wx ⟨A, rfl, hd, hA⟩
        have hHeld := hS9 wx hd
        simp only [Act.put, List.setIfInBounds_toArray, List.set_cons_zero, List.set_cons_succ]
        refine wpAnyH_ready (rs := [2, 6]) (by kernel_rfl) (by simp) ?_
        refine AllReadyH.cons rfl (fun K hKK => ?_) (AllReadyH.cons rfl (fun K hKK => ?_) AllReadyH.nil)
        · skip
          refine step_app (some 41) (.const (.slice none 0 0)) (.tmp 40) 22 rfl rfl rfl wd9.heap.size 3 Try.underlying22 hi9 hx9 hy9 hz9 rfl (by decide) (by decide) rfl (World.ownsRow_nil _ _ _ _) rfl ((h.caps.1).stay (stay_below' (below_next hB9 hd (Nat.le_refl _)) h.top)) (int_one _) (by omega) hs.caps hd.size ?_
          intro va wy ho hg
          rw [List.nil_append, Nat.zero_add] at ho
          have hxy : Below wx.heap.size wx wy := grown_below (World.ownsRow_nil _ _ 3 1) hg (Nat.le_refl _)
          have hd := below_next hd hxy (Nat.le_refl _)
          refine hKK.out _ _ (hS9 _ (hd)) (fun hHeld => ?_)
          clear hKK K
          try simp only [Act.put, List.setIfInBounds_toArray, List.set_cons_zero, List.set_cons_succ]
          refine r9_1001 _ _ ⟨va, A, ?_, hd, ho, ⟨hA.1, hA.2.on hxy⟩⟩
          simp only [Act.put, List.setIfInBounds_toArray, List.set_cons_zero, List.set_cons_succ]
        · skip
          go_simp
          refine hKK.out _ _ (hS9 _ (Below.alloc hd hd.size _)) (fun hHeld => ?_)
          clear hKK K
          try simp only [Act.put, List.setIfInBounds_toArray, List.set_cons_zero, List.set_cons_succ]
          refine r9_0101 _ _ ⟨wx.heap.size, A, ?_, Below.alloc hd hd.size _, blk_new wx _ _, ⟨hA.1, hA.2.alloc _⟩⟩
          simp only [Act.put, List.setIfInBounds_toArray, List.set_cons_zero, List.set_cons_succ]
      have hd : Below wd9.heap.size wd9 wd9 := Below.refl _ _
      refine wpAnyH_ready (rs := [2, 6, 13]) (by kernel_rfl) (by simp) ?_
      refine AllReadyH.cons rfl (fun K hKK => ?_) (AllReadyH.cons rfl (fun K hKK => ?_) (AllReadyH.cons rfl (fun K hKK => ?_) AllReadyH.nil))
      · skip
        refine step_app (some 41) (.const (.slice none 0 0)) (.tmp 40) 22 rfl rfl rfl wd9.heap.size 3 Try.underlying22 hi9 hx9 hy9 hz9 rfl (by decide) (by decide) rfl (World.ownsRow_nil _ _ _ _) rfl ((h.caps.1).stay (stay_below' (below_next hB9 hd (Nat.le_refl _)) h.top)) (int_one _) (by omega) hs.caps hd.size ?_
        intro va wy ho hg
        rw [List.nil_append, Nat.zero_add] at ho
        have hxy : Below wd9.heap.size wd9 wy := grown_below (World.ownsRow_nil _ _ 3 1) hg (Nat.le_refl _)
        have hd := below_next hd hxy (Nat.le_refl _)
        refine hKK.out _ _ (hS9 _ (hd)) (fun hHeld => ?_)
        clear hKK K
        try simp only [Act.put, List.setIfInBounds_toArray, List.set_cons_zero, List.set_cons_succ]
        refine r9_1000 _ _ ⟨va, ?_, hd, ho⟩
        simp only [Act.put, List.setIfInBounds_toArray, List.set_cons_zero, List.set_cons_succ]
      · skip
        go_simp
        refine hKK.out _ _ (hS9 _ (Below.alloc hd hd.size _)) (fun hHeld => ?_)
        clear hKK K
        try simp only [Act.put, List.setIfInBounds_toArray, List.set_cons_zero, List.set_cons_succ]
        refine r9_0100 _ _ ⟨wd9.heap.size, ?_, Below.alloc hd hd.size _, blk_new wd9 _ _⟩
        simp only [Act.put, List.setIfInBounds_toArray, List.set_cons_zero, List.set_cons_succ]
      · skip
        go_simp
        refine hKK.out _ _ (hS9 _ (Below.alloc hd hd.size _)) (fun hHeld => ?_)
        clear hKK K
        try simp only [Act.put, List.setIfInBounds_toArray, List.set_cons_zero, List.set_cons_succ]
        refine r9_0001 _ _ ⟨wd9.heap.size, ?_, Below.alloc hd hd.size _, ⟨hd.size, blk_new wd9 _ _⟩⟩
        simp only [Act.put, List.setIfInBounds_toArray, List.set_cons_zero, List.set_cons_succ]
    rintro a wx ⟨va, B1, vf, A9, rfl, hd, hf, hA⟩
    have hHeld := hS9 wx hd
    simp only [Act.put, List.setIfInBounds_toArray, List.set_cons_zero, List.set_cons_succ]
    obtain ⟨xg9, yg9, rfl⟩ := owns_slice hf
    have s0 : wx.cell? ⟨A9, 0, none⟩ = some (.slice none 0 0) := hA.2.cell rfl
    have s1 : wx.cell? ⟨A9, 1, none⟩ = some (.slice none 0 0) := hA.2.cell rfl
    have s2 : wx.cell? ⟨A9, 2, none⟩ = some (.slice none 0 0) := hA.2.cell rfl
    have f0 := hA.2.frozen 0
    have f1 := hA.2.frozen 1
    have f2 := hA.2.frozen 2
    refine wpAnyH_ready (rs := [14]) (by kernel_rfl) (by simp) ?_
    refine AllReadyH.cons rfl (fun K hKK => ?_) AllReadyH.nil
    go_simp
    have kA9 := ((hA.2.set 0 (.slice xg9 (p.caps.length + 1) yg9)).set 1 (.slice a2 p.codes.length c2)).set 2 (.slice a3 p.sites.length c3)
    have hbt : But [A9] wx (((wx.setCell ⟨A9, 0, none⟩ (.slice xg9 (p.caps.length + 1) yg9)).setCell ⟨A9, 1, none⟩ (.slice a2 p.codes.length c2)).setCell ⟨A9, 2, none⟩ (.slice a3 p.sites.length c3)) := (((But.refl _ wx).set (p := ⟨A9, 0, none⟩) (.inl (by simp)) _).set (p := ⟨A9, 1, none⟩) (.inl (by simp)) _).set (p := ⟨A9, 2, none⟩) (.inl (by simp)) _
    generalize ((wx.setCell ⟨A9, 0, none⟩ (.slice xg9 (p.caps.length + 1) yg9)).setCell ⟨A9, 1, none⟩ (.slice a2 p.codes.length c2)).setCell ⟨A9, 2, none⟩ (.slice a3 p.sites.length c3) = wy9 at kA9 hbt ⊢
    have dy : Below wd9.heap.size wd9 wy9 := hd.trans (hbt.below hd.size (by simp; exact hA.1))
    have hAx := hA.2
    have keepT : ∀ (j : Nat) (cs : Array Value) (t : TypeId) (z : Nat × Nat), t ≠ 26 → wx.heap[j]? = some (.cells cs t z) → wy9.heap[j]? = wx.heap[j]? := fun j cs t z ht hj => hbt.block j (Array.getElem?_eq_some_iff.1 hj).1 (by
      rintro hm
      obtain rfl := List.mem_singleton.1 hm
      rw [show wx.heap[j]? = _ from hAx] at hj
      simp only [Option.some.injEq, Obj.cells.injEq] at hj
      exact ht hj.2.1.symm)
    have hf9 := owns_keep hf (fun j cs z _ hj => keepT j cs _ z (by decide) hj)
    refine hKK.out _ _ (hS9 _ dy) (fun hHeld => ?_)
    clear hKK K
    refine wpAnyH_done (by kernel_rfl) ?_ _
    simp only [PanOnly, Act.put, List.setIfInBounds_toArray, List.set_cons_zero, List.set_cons_succ]
    have hB9e := below_next hB9 dy (Nat.le_refl _)
    have hK9e := hk9.on dy
    have hp9 := more_caps h hB9e hf9 (m := most % 9) ⟨by omega, by omega⟩
    clear s0 s1 s2 f0 f1 f2 hbt keepT hAx hA hd hf hf9 dy hHeld hk9 hB9 hS9
    go_wp2_with fail
    have hk10 := hK9e.drew
    have hB10 := hB9e.drew
    obtain ⟨i10, hi10, hx10, hy10, hz10⟩ := info_parts infoSite
    have kB9_10 := kA9.drew
    have hq9_10 := hp9.later (Below.refl _ _).drew
    refine wp_region_pan (R := fun _ _ => False) (fun _ _ _ _ h => h.elim) ?_
    refine wp_region_held_drew (S := fun w' => w'.cell? ⟨w.heap.size, 0, none⟩ = some (.slice a1 p.caps.length c1) ∧ w'.cell? ⟨w.heap.size, 1, none⟩ = some (.slice a2 p.codes.length c2) ∧ w'.cell? ⟨w.heap.size, 2, none⟩ = some (.slice a3 p.sites.length c3)) (by kernel_rfl) ⟨hk10.cell rfl, hk10.cell rfl, hk10.cell rfl⟩ (fun hHeld => ?_)
    generalize wy9.drew = wd10 at hk10 hB10 hHeld kB9_10 hq9_10 ⊢
    clear hK9e hB9e kA9 hp9
    have hS10 : ∀ w', Below wd10.heap.size wd10 w' → w'.cell? ⟨w.heap.size, 0, none⟩ = some (.slice a1 p.caps.length c1) ∧ w'.cell? ⟨w.heap.size, 1, none⟩ = some (.slice a2 p.codes.length c2) ∧ w'.cell? ⟨w.heap.size, 2, none⟩ = some (.slice a3 p.sites.length c3) := fun w' hb => by
      have x := hk10.on hb
      exact ⟨x.cell rfl, x.cell rfl, x.cell rfl⟩
    refine takeD (i := 0) (d := some 52) (v := .pointer (some ⟨w.heap.size, 0, none⟩)) (by kernel_rfl) (by kernel_rfl) (by kernel_rfl) (by kernel_rfl) (fun _ _ _ h => h) (fun oi h => ?_) hHeld ?_
    · simp only [List.getElem?_toArray, List.getElem?_cons_succ, List.getElem?_cons_zero, Option.some.injEq] at h
      subst h
      refine Or.inl ⟨by rfl, fun w' hSw => ?_⟩
      obtain ⟨x0, x1, x2⟩ := hSw
      go_simp
    try simp only [Act.put, List.setIfInBounds_toArray, List.set_cons_zero, List.set_cons_succ]
    refine takeD (i := 1) (d := some 53) (v := .slice a1 p.caps.length c1) (by kernel_rfl) (by kernel_rfl) (by kernel_rfl) (by kernel_rfl) (fun _ _ _ h => h) (fun oi h => ?_) hHeld ?_
    · simp only [List.getElem?_toArray, List.getElem?_cons_succ, List.getElem?_cons_zero, Option.some.injEq] at h
      subst h
      refine Or.inl ⟨by rfl, fun w' hSw => ?_⟩
      obtain ⟨x0, x1, x2⟩ := hSw
      go_simp
    try simp only [Act.put, List.setIfInBounds_toArray, List.set_cons_zero, List.set_cons_succ]
    refine takeD (i := 2) (d := some 54) (v := .pointer (some ⟨w.heap.size, 1, none⟩)) (by kernel_rfl) (by kernel_rfl) (by kernel_rfl) (by kernel_rfl) (fun _ _ _ h => h) (fun oi h => ?_) hHeld ?_
    · simp only [List.getElem?_toArray, List.getElem?_cons_succ, List.getElem?_cons_zero, Option.some.injEq] at h
      subst h
      refine Or.inl ⟨by rfl, fun w' hSw => ?_⟩
      obtain ⟨x0, x1, x2⟩ := hSw
      go_simp
    try simp only [Act.put, List.setIfInBounds_toArray, List.set_cons_zero, List.set_cons_succ]
    refine takeD (i := 3) (d := some 55) (v := .slice a2 p.codes.length c2) (by kernel_rfl) (by kernel_rfl) (by kernel_rfl) (by kernel_rfl) (fun _ _ _ h => h) (fun oi h => ?_) hHeld ?_
    · simp only [List.getElem?_toArray, List.getElem?_cons_succ, List.getElem?_cons_zero, Option.some.injEq] at h
      subst h
      refine Or.inl ⟨by rfl, fun w' hSw => ?_⟩
      obtain ⟨x0, x1, x2⟩ := hSw
      go_simp
    try simp only [Act.put, List.setIfInBounds_toArray, List.set_cons_zero, List.set_cons_succ]
    refine takeD (i := 4) (d := some 56) (v := .pointer (some ⟨w.heap.size, 2, none⟩)) (by kernel_rfl) (by kernel_rfl) (by kernel_rfl) (by kernel_rfl) (fun _ _ _ h => h) (fun oi h => ?_) hHeld ?_
    · simp only [List.getElem?_toArray, List.getElem?_cons_succ, List.getElem?_cons_zero, Option.some.injEq] at h
      subst h
      refine Or.inl ⟨by rfl, fun w' hSw => ?_⟩
      obtain ⟨x0, x1, x2⟩ := hSw
      go_simp
    try simp only [Act.put, List.setIfInBounds_toArray, List.set_cons_zero, List.set_cons_succ]
    refine takeD (i := 5) (d := some 57) (v := .slice a3 p.sites.length c3) (by kernel_rfl) (by kernel_rfl) (by kernel_rfl) (by kernel_rfl) (fun _ _ _ h => h) (fun oi h => ?_) hHeld ?_
    · simp only [List.getElem?_toArray, List.getElem?_cons_succ, List.getElem?_cons_zero, Option.some.injEq] at h
      subst h
      refine Or.inl ⟨by rfl, fun w' hSw => ?_⟩
      obtain ⟨x0, x1, x2⟩ := hSw
      go_simp
    try simp only [Act.put, List.setIfInBounds_toArray, List.set_cons_zero, List.set_cons_succ]
    refine takeD (i := 7) (d := some 59) (v := .agg #[.bool false, .int .i64 (-1), .int .i64 0, .int .i64 0]) (by kernel_rfl) (by kernel_rfl) (by kernel_rfl) (by kernel_rfl) (fun _ _ _ h => h) (fun oi h => ?_) hHeld ?_
    · simp only [List.getElem?_toArray, List.getElem?_cons_succ, List.getElem?_cons_zero, Option.some.injEq] at h
      subst h
      refine Or.inl ⟨by rfl, fun w' hSw => ?_⟩
      obtain ⟨x0, x1, x2⟩ := hSw
      go_simp
    try simp only [Act.put, List.setIfInBounds_toArray, List.set_cons_zero, List.set_cons_succ]
    refine wpAnyH_cut (fun a0 a wx => ∃ (va : Value) (B1 : Nat) (B2 : Nat) (vf : Value) (A : Nat), a = (((((((a0.put (some 58) va).put (some 60) (.slice (some ⟨B1, 0, none⟩) 1 1)).put (some 61) (.agg #[.slice (some ⟨B1, 0, none⟩) 1 1, .bool false])).put (some 62) (.slice (some ⟨B2, 0, none⟩) 1 1)).put (some 63) vf).put (some 64) (.agg #[.slice a1 p.caps.length c1, .slice a2 p.codes.length c2, vf])).put (some 10) (.pointer (some ⟨A, 0, none⟩))) ∧ (Below wd10.heap.size wd10 wx) ∧ (Blk wx B1 41 ([.bool false, .int .i64 (-1), .int .i64 0, .int .i64 0] : List Value).toArray) ∧ (wx.ownsRow wd10.heap.size 44 2 vf (p.sites.length + 1) (siteCells ss p.sites ++ [.slice (some ⟨B1, 0, none⟩) 1 1, .bool false])) ∧ (wd10.heap.size ≤ A ∧ Blk wx A 26 #[.slice none 0 0, .slice none 0 0, .slice none 0 0])) (f' := 1) (l' := #[true, true, true, true, true, true, true, true, true, true, true, true, true, true, false]) ?_ (fun r10_1211 => ?_)
    rotate_left 1
    · skip
      refine wpAnyH_cut (fun a0 a wx => ∃ (va : Value) (B1 : Nat) (B2 : Nat) (vf : Value), a = ((((((a0.put (some 58) va).put (some 60) (.slice (some ⟨B1, 0, none⟩) 1 1)).put (some 61) (.agg #[.slice (some ⟨B1, 0, none⟩) 1 1, .bool false])).put (some 62) (.slice (some ⟨B2, 0, none⟩) 1 1)).put (some 63) vf).put (some 64) (.agg #[.slice a1 p.caps.length c1, .slice a2 p.codes.length c2, vf])) ∧ (Below wd10.heap.size wd10 wx) ∧ (Blk wx B1 41 ([.bool false, .int .i64 (-1), .int .i64 0, .int .i64 0] : List Value).toArray) ∧ (wx.ownsRow wd10.heap.size 44 2 vf (p.sites.length + 1) (siteCells ss p.sites ++ [.slice (some ⟨B1, 0, none⟩) 1 1, .bool false]))) (f' := 2) (l' := #[true, true, true, true, true, true, true, true, true, true, true, true, true, false, false]) ?_ (fun r10_1210 => ?_)
      · rintro a wx ⟨va, B1, B2, vf, rfl, hd, hb1, hf⟩
        have hHeld := hS10 wx hd
        simp only [Act.put, List.setIfInBounds_toArray, List.set_cons_zero, List.set_cons_succ]
        refine wpAnyH_ready (rs := [13]) (by kernel_rfl) (by simp) ?_
        refine AllReadyH.cons rfl (fun K hKK => ?_) AllReadyH.nil
        · skip
          go_simp
          refine hKK.out _ _ (hS10 _ (Below.alloc hd hd.size _)) (fun hHeld => ?_)
          clear hKK K
          try simp only [Act.put, List.setIfInBounds_toArray, List.set_cons_zero, List.set_cons_succ]
          refine r10_1211 _ _ ⟨va, B1, B2, vf, wx.heap.size, ?_, Below.alloc hd hd.size _, hb1.alloc _, owns_fresh hf (grown_new wx _), ⟨hd.size, blk_new wx _ _⟩⟩
          simp only [Act.put, List.setIfInBounds_toArray, List.set_cons_zero, List.set_cons_succ]
      refine wpAnyH_cut (fun a0 a wx => ∃ (va : Value) (B1 : Nat) (B2 : Nat) (A : Nat), a = (((((a0.put (some 58) va).put (some 60) (.slice (some ⟨B1, 0, none⟩) 1 1)).put (some 61) (.agg #[.slice (some ⟨B1, 0, none⟩) 1 1, .bool false])).put (some 62) (.slice (some ⟨B2, 0, none⟩) 1 1)).put (some 10) (.pointer (some ⟨A, 0, none⟩))) ∧ (Below wd10.heap.size wd10 wx) ∧ (wx.ownsRow wd10.heap.size 44 2 va p.sites.length (siteCells ss p.sites)) ∧ (Blk wx B1 41 ([.bool false, .int .i64 (-1), .int .i64 0, .int .i64 0] : List Value).toArray) ∧ (Blk wx B2 44 ([.slice (some ⟨B1, 0, none⟩) 1 1, .bool false] : List Value).toArray) ∧ (wd10.heap.size ≤ A ∧ Blk wx A 26 #[.slice none 0 0, .slice none 0 0, .slice none 0 0])) (f' := 3) (l' := #[true, true, true, true, true, true, true, true, true, true, true, false, false, true, false]) ?_ (fun r10_1201 => ?_)
      · rintro a wx ⟨va, B1, B2, A, rfl, hd, ho, hb1, hb2, hA⟩
        have hHeld := hS10 wx hd
        simp only [Act.put, List.setIfInBounds_toArray, List.set_cons_zero, List.set_cons_succ]
        refine wpAnyH_ready (rs := [11]) (by kernel_rfl) (by simp) ?_
        refine AllReadyH.cons rfl (fun K hKK => ?_) AllReadyH.nil
        · skip
          refine step_app (some 63) (.tmp 58) (.tmp 62) 24 rfl rfl rfl wd10.heap.size 44 Try.underlying24 hi10 hx10 hy10 hz10 rfl (by decide) (by decide) rfl ho rfl (flat_one (s := 2) hb2 rfl) (by simp only [List.mem_cons, List.not_mem_nil, or_false]; intro u hu; rcases hu with rfl | rfl <;> rfl) hs.sites (by omega) hd.size ?_
          intro vf wy hf hg
          obtain ⟨xg, yg, rfl⟩ := owns_slice hf
          have hd' := hd.trans (grown_below ho hg hd.size)
          refine hKK.out _ _ (hS10 _ (hd')) (fun hHeld => ?_)
          clear hKK K
          try simp only [Act.put, List.setIfInBounds_toArray, List.set_cons_zero, List.set_cons_succ]
          refine takeD (i := 12) (d := some 64) (v := .agg #[.slice a1 p.caps.length c1, .slice a2 p.codes.length c2, .slice xg (p.sites.length + 1) yg]) (by kernel_rfl) (by kernel_rfl) (by kernel_rfl) (by kernel_rfl) (fun _ _ _ h => h) (fun oi h => ?_) hHeld ?_
          · simp only [List.getElem?_toArray, List.getElem?_cons_succ, List.getElem?_cons_zero, Option.some.injEq] at h
            subst h
            refine Or.inl ⟨by rfl, fun w' hSw => ?_⟩
            obtain ⟨x0, x1, x2⟩ := hSw
            go_simp
          try simp only [Act.put, List.setIfInBounds_toArray, List.set_cons_zero, List.set_cons_succ]
          refine r10_1211 _ _ ⟨va, B1, B2, .slice xg (p.sites.length + 1) yg, A, ?_, hd', grown_other ho hg hb1 (by decide), hf, ⟨hA.1, grown_other ho hg hA.2 (by decide)⟩⟩
          simp only [Act.put, List.setIfInBounds_toArray, List.set_cons_zero, List.set_cons_succ]
      refine wpAnyH_cut (fun a0 a wx => ∃ (va : Value) (B1 : Nat) (B2 : Nat), a = ((((a0.put (some 58) va).put (some 60) (.slice (some ⟨B1, 0, none⟩) 1 1)).put (some 61) (.agg #[.slice (some ⟨B1, 0, none⟩) 1 1, .bool false])).put (some 62) (.slice (some ⟨B2, 0, none⟩) 1 1)) ∧ (Below wd10.heap.size wd10 wx) ∧ (wx.ownsRow wd10.heap.size 44 2 va p.sites.length (siteCells ss p.sites)) ∧ (Blk wx B1 41 ([.bool false, .int .i64 (-1), .int .i64 0, .int .i64 0] : List Value).toArray) ∧ (Blk wx B2 44 ([.slice (some ⟨B1, 0, none⟩) 1 1, .bool false] : List Value).toArray)) (f' := 4) (l' := #[true, true, true, true, true, true, true, true, true, true, true, false, false, false, false]) ?_ (fun r10_1200 => ?_)
      · rintro a wx ⟨va, B1, B2, rfl, hd, ho, hb1, hb2⟩
        have hHeld := hS10 wx hd
        simp only [Act.put, List.setIfInBounds_toArray, List.set_cons_zero, List.set_cons_succ]
        refine wpAnyH_ready (rs := [11, 13]) (by kernel_rfl) (by simp) ?_
        refine AllReadyH.cons rfl (fun K hKK => ?_) (AllReadyH.cons rfl (fun K hKK => ?_) AllReadyH.nil)
        · skip
          refine step_app (some 63) (.tmp 58) (.tmp 62) 24 rfl rfl rfl wd10.heap.size 44 Try.underlying24 hi10 hx10 hy10 hz10 rfl (by decide) (by decide) rfl ho rfl (flat_one (s := 2) hb2 rfl) (by simp only [List.mem_cons, List.not_mem_nil, or_false]; intro u hu; rcases hu with rfl | rfl <;> rfl) hs.sites (by omega) hd.size ?_
          intro vf wy hf hg
          obtain ⟨xg, yg, rfl⟩ := owns_slice hf
          have hd' := hd.trans (grown_below ho hg hd.size)
          refine hKK.out _ _ (hS10 _ (hd')) (fun hHeld => ?_)
          clear hKK K
          try simp only [Act.put, List.setIfInBounds_toArray, List.set_cons_zero, List.set_cons_succ]
          refine takeD (i := 12) (d := some 64) (v := .agg #[.slice a1 p.caps.length c1, .slice a2 p.codes.length c2, .slice xg (p.sites.length + 1) yg]) (by kernel_rfl) (by kernel_rfl) (by kernel_rfl) (by kernel_rfl) (fun _ _ _ h => h) (fun oi h => ?_) hHeld ?_
          · simp only [List.getElem?_toArray, List.getElem?_cons_succ, List.getElem?_cons_zero, Option.some.injEq] at h
            subst h
            refine Or.inl ⟨by rfl, fun w' hSw => ?_⟩
            obtain ⟨x0, x1, x2⟩ := hSw
            go_simp
          try simp only [Act.put, List.setIfInBounds_toArray, List.set_cons_zero, List.set_cons_succ]
          refine r10_1210 _ _ ⟨va, B1, B2, .slice xg (p.sites.length + 1) yg, ?_, hd', grown_other ho hg hb1 (by decide), hf⟩
          simp only [Act.put, List.setIfInBounds_toArray, List.set_cons_zero, List.set_cons_succ]
        · skip
          go_simp
          refine hKK.out _ _ (hS10 _ (Below.alloc hd hd.size _)) (fun hHeld => ?_)
          clear hKK K
          try simp only [Act.put, List.setIfInBounds_toArray, List.set_cons_zero, List.set_cons_succ]
          refine r10_1201 _ _ ⟨va, B1, B2, wx.heap.size, ?_, Below.alloc hd hd.size _, owns_fresh ho (grown_new wx _), hb1.alloc _, hb2.alloc _, ⟨hd.size, blk_new wx _ _⟩⟩
          simp only [Act.put, List.setIfInBounds_toArray, List.set_cons_zero, List.set_cons_succ]
      refine wpAnyH_cut (fun a0 a wx => ∃ (B1 : Nat) (B2 : Nat) (A : Nat), a = ((((a0.put (some 60) (.slice (some ⟨B1, 0, none⟩) 1 1)).put (some 61) (.agg #[.slice (some ⟨B1, 0, none⟩) 1 1, .bool false])).put (some 62) (.slice (some ⟨B2, 0, none⟩) 1 1)).put (some 10) (.pointer (some ⟨A, 0, none⟩))) ∧ (Below wd10.heap.size wd10 wx) ∧ (Blk wx B1 41 ([.bool false, .int .i64 (-1), .int .i64 0, .int .i64 0] : List Value).toArray) ∧ (Blk wx B2 44 ([.slice (some ⟨B1, 0, none⟩) 1 1, .bool false] : List Value).toArray) ∧ (wd10.heap.size ≤ A ∧ Blk wx A 26 #[.slice none 0 0, .slice none 0 0, .slice none 0 0])) (f' := 4) (l' := #[true, true, true, true, true, true, false, true, true, true, true, false, false, true, false]) ?_ (fun r10_0201 => ?_)
      · rintro a wx ⟨B1, B2, A, rfl, hd, hb1, hb2, hA⟩
        have hHeld := hS10 wx hd
        simp only [Act.put, List.setIfInBounds_toArray, List.set_cons_zero, List.set_cons_succ]
        refine wpAnyH_ready (rs := [6]) (by kernel_rfl) (by simp) ?_
        refine AllReadyH.cons rfl (fun K hKK => ?_) AllReadyH.nil
        · skip
          refine step_app (some 58) (.const (.slice none 0 0)) (.tmp 57) 24 rfl rfl rfl wd10.heap.size 44 Try.underlying24 hi10 hx10 hy10 hz10 rfl (by decide) (by decide) rfl (World.ownsRow_nil _ _ _ _) rfl ((hsf).stay (stay_below' (below_next hB10 hd (Nat.le_refl _)) h.top)) (sites_one hsl hsc) (by omega) hs.sites hd.size ?_
          intro va wy ho hg
          rw [List.nil_append, Nat.zero_add] at ho
          have hxy : Below wx.heap.size wx wy := grown_below (World.ownsRow_nil _ _ 44 2) hg (Nat.le_refl _)
          have hd := below_next hd hxy (Nat.le_refl _)
          refine hKK.out _ _ (hS10 _ (hd)) (fun hHeld => ?_)
          clear hKK K
          try simp only [Act.put, List.setIfInBounds_toArray, List.set_cons_zero, List.set_cons_succ]
          refine r10_1201 _ _ ⟨va, B1, B2, A, ?_, hd, ho, hb1.on hxy, hb2.on hxy, ⟨hA.1, hA.2.on hxy⟩⟩
          simp only [Act.put, List.setIfInBounds_toArray, List.set_cons_zero, List.set_cons_succ]
      refine wpAnyH_cut (fun a0 a wx => ∃ (va : Value) (B1 : Nat) (A : Nat), a = ((((a0.put (some 58) va).put (some 60) (.slice (some ⟨B1, 0, none⟩) 1 1)).put (some 61) (.agg #[.slice (some ⟨B1, 0, none⟩) 1 1, .bool false])).put (some 10) (.pointer (some ⟨A, 0, none⟩))) ∧ (Below wd10.heap.size wd10 wx) ∧ (wx.ownsRow wd10.heap.size 44 2 va p.sites.length (siteCells ss p.sites)) ∧ (Blk wx B1 41 ([.bool false, .int .i64 (-1), .int .i64 0, .int .i64 0] : List Value).toArray) ∧ (wd10.heap.size ≤ A ∧ Blk wx A 26 #[.slice none 0 0, .slice none 0 0, .slice none 0 0])) (f' := 4) (l' := #[true, true, true, true, true, true, true, true, true, true, false, false, false, true, false]) ?_ (fun r10_1101 => ?_)
      · rintro a wx ⟨va, B1, A, rfl, hd, ho, hb1, hA⟩
        have hHeld := hS10 wx hd
        simp only [Act.put, List.setIfInBounds_toArray, List.set_cons_zero, List.set_cons_succ]
        refine wpAnyH_ready (rs := [10]) (by kernel_rfl) (by simp) ?_
        refine AllReadyH.cons rfl (fun K hKK => ?_) AllReadyH.nil
        · skip
          go_simp
          refine hKK.out _ _ (hS10 _ (Below.alloc hd hd.size _)) (fun hHeld => ?_)
          clear hKK K
          try simp only [Act.put, List.setIfInBounds_toArray, List.set_cons_zero, List.set_cons_succ]
          refine r10_1201 _ _ ⟨va, B1, wx.heap.size, A, ?_, Below.alloc hd hd.size _, owns_fresh ho (grown_new wx _), hb1.alloc _, blk_new wx _ _, ⟨hA.1, hA.2.alloc _⟩⟩
          simp only [Act.put, List.setIfInBounds_toArray, List.set_cons_zero, List.set_cons_succ]
      refine wpAnyH_cut (fun a0 a wx => ∃ (B1 : Nat) (B2 : Nat), a = (((a0.put (some 60) (.slice (some ⟨B1, 0, none⟩) 1 1)).put (some 61) (.agg #[.slice (some ⟨B1, 0, none⟩) 1 1, .bool false])).put (some 62) (.slice (some ⟨B2, 0, none⟩) 1 1)) ∧ (Below wd10.heap.size wd10 wx) ∧ (Blk wx B1 41 ([.bool false, .int .i64 (-1), .int .i64 0, .int .i64 0] : List Value).toArray) ∧ (Blk wx B2 44 ([.slice (some ⟨B1, 0, none⟩) 1 1, .bool false] : List Value).toArray)) (f' := 5) (l' := #[true, true, true, true, true, true, false, true, true, true, true, false, false, false, false]) ?_ (fun r10_0200 => ?_)
      · rintro a wx ⟨B1, B2, rfl, hd, hb1, hb2⟩
        have hHeld := hS10 wx hd
        simp only [Act.put, List.setIfInBounds_toArray, List.set_cons_zero, List.set_cons_succ]
        refine wpAnyH_ready (rs := [6, 13]) (by kernel_rfl) (by simp) ?_
        refine AllReadyH.cons rfl (fun K hKK => ?_) (AllReadyH.cons rfl (fun K hKK => ?_) AllReadyH.nil)
        · skip
          refine step_app (some 58) (.const (.slice none 0 0)) (.tmp 57) 24 rfl rfl rfl wd10.heap.size 44 Try.underlying24 hi10 hx10 hy10 hz10 rfl (by decide) (by decide) rfl (World.ownsRow_nil _ _ _ _) rfl ((hsf).stay (stay_below' (below_next hB10 hd (Nat.le_refl _)) h.top)) (sites_one hsl hsc) (by omega) hs.sites hd.size ?_
          intro va wy ho hg
          rw [List.nil_append, Nat.zero_add] at ho
          have hxy : Below wx.heap.size wx wy := grown_below (World.ownsRow_nil _ _ 44 2) hg (Nat.le_refl _)
          have hd := below_next hd hxy (Nat.le_refl _)
          refine hKK.out _ _ (hS10 _ (hd)) (fun hHeld => ?_)
          clear hKK K
          try simp only [Act.put, List.setIfInBounds_toArray, List.set_cons_zero, List.set_cons_succ]
          refine r10_1200 _ _ ⟨va, B1, B2, ?_, hd, ho, hb1.on hxy, hb2.on hxy⟩
          simp only [Act.put, List.setIfInBounds_toArray, List.set_cons_zero, List.set_cons_succ]
        · skip
          go_simp
          refine hKK.out _ _ (hS10 _ (Below.alloc hd hd.size _)) (fun hHeld => ?_)
          clear hKK K
          try simp only [Act.put, List.setIfInBounds_toArray, List.set_cons_zero, List.set_cons_succ]
          refine r10_0201 _ _ ⟨B1, B2, wx.heap.size, ?_, Below.alloc hd hd.size _, hb1.alloc _, hb2.alloc _, ⟨hd.size, blk_new wx _ _⟩⟩
          simp only [Act.put, List.setIfInBounds_toArray, List.set_cons_zero, List.set_cons_succ]
      refine wpAnyH_cut (fun a0 a wx => ∃ (va : Value) (B1 : Nat), a = (((a0.put (some 58) va).put (some 60) (.slice (some ⟨B1, 0, none⟩) 1 1)).put (some 61) (.agg #[.slice (some ⟨B1, 0, none⟩) 1 1, .bool false])) ∧ (Below wd10.heap.size wd10 wx) ∧ (wx.ownsRow wd10.heap.size 44 2 va p.sites.length (siteCells ss p.sites)) ∧ (Blk wx B1 41 ([.bool false, .int .i64 (-1), .int .i64 0, .int .i64 0] : List Value).toArray)) (f' := 5) (l' := #[true, true, true, true, true, true, true, true, true, true, false, false, false, false, false]) ?_ (fun r10_1100 => ?_)
      · rintro a wx ⟨va, B1, rfl, hd, ho, hb1⟩
        have hHeld := hS10 wx hd
        simp only [Act.put, List.setIfInBounds_toArray, List.set_cons_zero, List.set_cons_succ]
        refine wpAnyH_ready (rs := [10, 13]) (by kernel_rfl) (by simp) ?_
        refine AllReadyH.cons rfl (fun K hKK => ?_) (AllReadyH.cons rfl (fun K hKK => ?_) AllReadyH.nil)
        · skip
          go_simp
          refine hKK.out _ _ (hS10 _ (Below.alloc hd hd.size _)) (fun hHeld => ?_)
          clear hKK K
          try simp only [Act.put, List.setIfInBounds_toArray, List.set_cons_zero, List.set_cons_succ]
          refine r10_1200 _ _ ⟨va, B1, wx.heap.size, ?_, Below.alloc hd hd.size _, owns_fresh ho (grown_new wx _), hb1.alloc _, blk_new wx _ _⟩
          simp only [Act.put, List.setIfInBounds_toArray, List.set_cons_zero, List.set_cons_succ]
        · skip
          go_simp
          refine hKK.out _ _ (hS10 _ (Below.alloc hd hd.size _)) (fun hHeld => ?_)
          clear hKK K
          try simp only [Act.put, List.setIfInBounds_toArray, List.set_cons_zero, List.set_cons_succ]
          refine r10_1101 _ _ ⟨va, B1, wx.heap.size, ?_, Below.alloc hd hd.size _, owns_fresh ho (grown_new wx _), hb1.alloc _, ⟨hd.size, blk_new wx _ _⟩⟩
          simp only [Act.put, List.setIfInBounds_toArray, List.set_cons_zero, List.set_cons_succ]
      refine wpAnyH_cut (fun a0 a wx => ∃ (B1 : Nat) (A : Nat), a = (((a0.put (some 60) (.slice (some ⟨B1, 0, none⟩) 1 1)).put (some 61) (.agg #[.slice (some ⟨B1, 0, none⟩) 1 1, .bool false])).put (some 10) (.pointer (some ⟨A, 0, none⟩))) ∧ (Below wd10.heap.size wd10 wx) ∧ (Blk wx B1 41 ([.bool false, .int .i64 (-1), .int .i64 0, .int .i64 0] : List Value).toArray) ∧ (wd10.heap.size ≤ A ∧ Blk wx A 26 #[.slice none 0 0, .slice none 0 0, .slice none 0 0])) (f' := 5) (l' := #[true, true, true, true, true, true, false, true, true, true, false, false, false, true, false]) ?_ (fun r10_0101 => ?_)
      · rintro a wx ⟨B1, A, rfl, hd, hb1, hA⟩
        have hHeld := hS10 wx hd
        simp only [Act.put, List.setIfInBounds_toArray, List.set_cons_zero, List.set_cons_succ]
        refine wpAnyH_ready (rs := [6, 10]) (by kernel_rfl) (by simp) ?_
        refine AllReadyH.cons rfl (fun K hKK => ?_) (AllReadyH.cons rfl (fun K hKK => ?_) AllReadyH.nil)
        · skip
          refine step_app (some 58) (.const (.slice none 0 0)) (.tmp 57) 24 rfl rfl rfl wd10.heap.size 44 Try.underlying24 hi10 hx10 hy10 hz10 rfl (by decide) (by decide) rfl (World.ownsRow_nil _ _ _ _) rfl ((hsf).stay (stay_below' (below_next hB10 hd (Nat.le_refl _)) h.top)) (sites_one hsl hsc) (by omega) hs.sites hd.size ?_
          intro va wy ho hg
          rw [List.nil_append, Nat.zero_add] at ho
          have hxy : Below wx.heap.size wx wy := grown_below (World.ownsRow_nil _ _ 44 2) hg (Nat.le_refl _)
          have hd := below_next hd hxy (Nat.le_refl _)
          refine hKK.out _ _ (hS10 _ (hd)) (fun hHeld => ?_)
          clear hKK K
          try simp only [Act.put, List.setIfInBounds_toArray, List.set_cons_zero, List.set_cons_succ]
          refine r10_1101 _ _ ⟨va, B1, A, ?_, hd, ho, hb1.on hxy, ⟨hA.1, hA.2.on hxy⟩⟩
          simp only [Act.put, List.setIfInBounds_toArray, List.set_cons_zero, List.set_cons_succ]
        · skip
          go_simp
          refine hKK.out _ _ (hS10 _ (Below.alloc hd hd.size _)) (fun hHeld => ?_)
          clear hKK K
          try simp only [Act.put, List.setIfInBounds_toArray, List.set_cons_zero, List.set_cons_succ]
          refine r10_0201 _ _ ⟨B1, wx.heap.size, A, ?_, Below.alloc hd hd.size _, hb1.alloc _, blk_new wx _ _, ⟨hA.1, hA.2.alloc _⟩⟩
          simp only [Act.put, List.setIfInBounds_toArray, List.set_cons_zero, List.set_cons_succ]
      refine wpAnyH_cut (fun a0 a wx => ∃ (B1 : Nat), a = ((a0.put (some 60) (.slice (some ⟨B1, 0, none⟩) 1 1)).put (some 61) (.agg #[.slice (some ⟨B1, 0, none⟩) 1 1, .bool false])) ∧ (Below wd10.heap.size wd10 wx) ∧ (Blk wx B1 41 ([.bool false, .int .i64 (-1), .int .i64 0, .int .i64 0] : List Value).toArray)) (f' := 6) (l' := #[true, true, true, true, true, true, false, true, true, true, false, false, false, false, false]) ?_ (fun r10_0100 => ?_)
      · rintro a wx ⟨B1, rfl, hd, hb1⟩
        have hHeld := hS10 wx hd
        simp only [Act.put, List.setIfInBounds_toArray, List.set_cons_zero, List.set_cons_succ]
        refine wpAnyH_ready (rs := [6, 10, 13]) (by kernel_rfl) (by simp) ?_
        refine AllReadyH.cons rfl (fun K hKK => ?_) (AllReadyH.cons rfl (fun K hKK => ?_) (AllReadyH.cons rfl (fun K hKK => ?_) AllReadyH.nil))
        · skip
          refine step_app (some 58) (.const (.slice none 0 0)) (.tmp 57) 24 rfl rfl rfl wd10.heap.size 44 Try.underlying24 hi10 hx10 hy10 hz10 rfl (by decide) (by decide) rfl (World.ownsRow_nil _ _ _ _) rfl ((hsf).stay (stay_below' (below_next hB10 hd (Nat.le_refl _)) h.top)) (sites_one hsl hsc) (by omega) hs.sites hd.size ?_
          intro va wy ho hg
          rw [List.nil_append, Nat.zero_add] at ho
          have hxy : Below wx.heap.size wx wy := grown_below (World.ownsRow_nil _ _ 44 2) hg (Nat.le_refl _)
          have hd := below_next hd hxy (Nat.le_refl _)
          refine hKK.out _ _ (hS10 _ (hd)) (fun hHeld => ?_)
          clear hKK K
          try simp only [Act.put, List.setIfInBounds_toArray, List.set_cons_zero, List.set_cons_succ]
          refine r10_1100 _ _ ⟨va, B1, ?_, hd, ho, hb1.on hxy⟩
          simp only [Act.put, List.setIfInBounds_toArray, List.set_cons_zero, List.set_cons_succ]
        · skip
          go_simp
          refine hKK.out _ _ (hS10 _ (Below.alloc hd hd.size _)) (fun hHeld => ?_)
          clear hKK K
          try simp only [Act.put, List.setIfInBounds_toArray, List.set_cons_zero, List.set_cons_succ]
          refine r10_0200 _ _ ⟨B1, wx.heap.size, ?_, Below.alloc hd hd.size _, hb1.alloc _, blk_new wx _ _⟩
          simp only [Act.put, List.setIfInBounds_toArray, List.set_cons_zero, List.set_cons_succ]
        · skip
          go_simp
          refine hKK.out _ _ (hS10 _ (Below.alloc hd hd.size _)) (fun hHeld => ?_)
          clear hKK K
          try simp only [Act.put, List.setIfInBounds_toArray, List.set_cons_zero, List.set_cons_succ]
          refine r10_0101 _ _ ⟨B1, wx.heap.size, ?_, Below.alloc hd hd.size _, hb1.alloc _, ⟨hd.size, blk_new wx _ _⟩⟩
          simp only [Act.put, List.setIfInBounds_toArray, List.set_cons_zero, List.set_cons_succ]
      refine wpAnyH_cut (fun a0 a wx => ∃ (va : Value) (A : Nat), a = ((a0.put (some 58) va).put (some 10) (.pointer (some ⟨A, 0, none⟩))) ∧ (Below wd10.heap.size wd10 wx) ∧ (wx.ownsRow wd10.heap.size 44 2 va p.sites.length (siteCells ss p.sites)) ∧ (wd10.heap.size ≤ A ∧ Blk wx A 26 #[.slice none 0 0, .slice none 0 0, .slice none 0 0])) (f' := 6) (l' := #[true, true, true, true, true, true, true, true, false, false, false, false, false, true, false]) ?_ (fun r10_1001 => ?_)
      · rintro a wx ⟨va, A, rfl, hd, ho, hA⟩
        have hHeld := hS10 wx hd
        simp only [Act.put, List.setIfInBounds_toArray, List.set_cons_zero, List.set_cons_succ]
        refine wpAnyH_ready (rs := [8]) (by kernel_rfl) (by simp) ?_
        refine AllReadyH.cons rfl (fun K hKK => ?_) AllReadyH.nil
        · skip
          go_simp
          refine hKK.out _ _ (hS10 _ (Below.alloc hd hd.size _)) (fun hHeld => ?_)
          clear hKK K
          try simp only [Act.put, List.setIfInBounds_toArray, List.set_cons_zero, List.set_cons_succ]
          refine takeD (i := 9) (d := some 61) (v := .agg #[.slice (some ⟨wx.heap.size, 0, none⟩) 1 1, .bool false]) (by kernel_rfl) (by kernel_rfl) (by kernel_rfl) (by kernel_rfl) (fun _ _ _ h => h) (fun oi h => ?_) hHeld ?_
          · simp only [List.getElem?_toArray, List.getElem?_cons_succ, List.getElem?_cons_zero, Option.some.injEq] at h
            subst h
            refine Or.inl ⟨by rfl, fun w' hSw => ?_⟩
            obtain ⟨x0, x1, x2⟩ := hSw
            go_simp
          try simp only [Act.put, List.setIfInBounds_toArray, List.set_cons_zero, List.set_cons_succ]
          refine r10_1101 _ _ ⟨va, wx.heap.size, A, ?_, Below.alloc hd hd.size _, owns_fresh ho (grown_new wx _), blk_new wx _ _, ⟨hA.1, hA.2.alloc _⟩⟩
          simp only [Act.put, List.setIfInBounds_toArray, List.set_cons_zero, List.set_cons_succ]
      refine wpAnyH_cut (fun a0 a wx => ∃ (va : Value), a = (a0.put (some 58) va) ∧ (Below wd10.heap.size wd10 wx) ∧ (wx.ownsRow wd10.heap.size 44 2 va p.sites.length (siteCells ss p.sites))) (f' := 7) (l' := #[true, true, true, true, true, true, true, true, false, false, false, false, false, false, false]) ?_ (fun r10_1000 => ?_)
      · rintro a wx ⟨va, rfl, hd, ho⟩
        have hHeld := hS10 wx hd
        simp only [Act.put, List.setIfInBounds_toArray, List.set_cons_zero, List.set_cons_succ]
        refine wpAnyH_ready (rs := [8, 13]) (by kernel_rfl) (by simp) ?_
        refine AllReadyH.cons rfl (fun K hKK => ?_) (AllReadyH.cons rfl (fun K hKK => ?_) AllReadyH.nil)
        · skip
          go_simp
          refine hKK.out _ _ (hS10 _ (Below.alloc hd hd.size _)) (fun hHeld => ?_)
          clear hKK K
          try simp only [Act.put, List.setIfInBounds_toArray, List.set_cons_zero, List.set_cons_succ]
          refine takeD (i := 9) (d := some 61) (v := .agg #[.slice (some ⟨wx.heap.size, 0, none⟩) 1 1, .bool false]) (by kernel_rfl) (by kernel_rfl) (by kernel_rfl) (by kernel_rfl) (fun _ _ _ h => h) (fun oi h => ?_) hHeld ?_
          · simp only [List.getElem?_toArray, List.getElem?_cons_succ, List.getElem?_cons_zero, Option.some.injEq] at h
            subst h
            refine Or.inl ⟨by rfl, fun w' hSw => ?_⟩
            obtain ⟨x0, x1, x2⟩ := hSw
            go_simp
          try simp only [Act.put, List.setIfInBounds_toArray, List.set_cons_zero, List.set_cons_succ]
          refine r10_1100 _ _ ⟨va, wx.heap.size, ?_, Below.alloc hd hd.size _, owns_fresh ho (grown_new wx _), blk_new wx _ _⟩
          simp only [Act.put, List.setIfInBounds_toArray, List.set_cons_zero, List.set_cons_succ]
        · skip
          go_simp
          refine hKK.out _ _ (hS10 _ (Below.alloc hd hd.size _)) (fun hHeld => ?_)
          clear hKK K
          try simp only [Act.put, List.setIfInBounds_toArray, List.set_cons_zero, List.set_cons_succ]
          refine r10_1001 _ _ ⟨va, wx.heap.size, ?_, Below.alloc hd hd.size _, owns_fresh ho (grown_new wx _), ⟨hd.size, blk_new wx _ _⟩⟩
          simp only [Act.put, List.setIfInBounds_toArray, List.set_cons_zero, List.set_cons_succ]
      refine wpAnyH_cut (fun a0 a wx => ∃ (A : Nat), a = (a0.put (some 10) (.pointer (some ⟨A, 0, none⟩))) ∧ (Below wd10.heap.size wd10 wx) ∧ (wd10.heap.size ≤ A ∧ Blk wx A 26 #[.slice none 0 0, .slice none 0 0, .slice none 0 0])) (f' := 7) (l' := #[true, true, true, true, true, true, false, true, false, false, false, false, false, true, false]) ?_ (fun r10_0001 => ?_)
      · rintro a wx ⟨A, rfl, hd, hA⟩
        have hHeld := hS10 wx hd
        simp only [Act.put, List.setIfInBounds_toArray, List.set_cons_zero, List.set_cons_succ]
        refine wpAnyH_ready (rs := [6, 8]) (by kernel_rfl) (by simp) ?_
        refine AllReadyH.cons rfl (fun K hKK => ?_) (AllReadyH.cons rfl (fun K hKK => ?_) AllReadyH.nil)
        · skip
          refine step_app (some 58) (.const (.slice none 0 0)) (.tmp 57) 24 rfl rfl rfl wd10.heap.size 44 Try.underlying24 hi10 hx10 hy10 hz10 rfl (by decide) (by decide) rfl (World.ownsRow_nil _ _ _ _) rfl ((hsf).stay (stay_below' (below_next hB10 hd (Nat.le_refl _)) h.top)) (sites_one hsl hsc) (by omega) hs.sites hd.size ?_
          intro va wy ho hg
          rw [List.nil_append, Nat.zero_add] at ho
          have hxy : Below wx.heap.size wx wy := grown_below (World.ownsRow_nil _ _ 44 2) hg (Nat.le_refl _)
          have hd := below_next hd hxy (Nat.le_refl _)
          refine hKK.out _ _ (hS10 _ (hd)) (fun hHeld => ?_)
          clear hKK K
          try simp only [Act.put, List.setIfInBounds_toArray, List.set_cons_zero, List.set_cons_succ]
          refine r10_1001 _ _ ⟨va, A, ?_, hd, ho, ⟨hA.1, hA.2.on hxy⟩⟩
          simp only [Act.put, List.setIfInBounds_toArray, List.set_cons_zero, List.set_cons_succ]
        · skip
          go_simp
          refine hKK.out _ _ (hS10 _ (Below.alloc hd hd.size _)) (fun hHeld => ?_)
          clear hKK K
          try simp only [Act.put, List.setIfInBounds_toArray, List.set_cons_zero, List.set_cons_succ]
          refine takeD (i := 9) (d := some 61) (v := .agg #[.slice (some ⟨wx.heap.size, 0, none⟩) 1 1, .bool false]) (by kernel_rfl) (by kernel_rfl) (by kernel_rfl) (by kernel_rfl) (fun _ _ _ h => h) (fun oi h => ?_) hHeld ?_
          · simp only [List.getElem?_toArray, List.getElem?_cons_succ, List.getElem?_cons_zero, Option.some.injEq] at h
            subst h
            refine Or.inl ⟨by rfl, fun w' hSw => ?_⟩
            obtain ⟨x0, x1, x2⟩ := hSw
            go_simp
          try simp only [Act.put, List.setIfInBounds_toArray, List.set_cons_zero, List.set_cons_succ]
          refine r10_0101 _ _ ⟨wx.heap.size, A, ?_, Below.alloc hd hd.size _, blk_new wx _ _, ⟨hA.1, hA.2.alloc _⟩⟩
          simp only [Act.put, List.setIfInBounds_toArray, List.set_cons_zero, List.set_cons_succ]
      have hd : Below wd10.heap.size wd10 wd10 := Below.refl _ _
      refine wpAnyH_ready (rs := [6, 8, 13]) (by kernel_rfl) (by simp) ?_
      refine AllReadyH.cons rfl (fun K hKK => ?_) (AllReadyH.cons rfl (fun K hKK => ?_) (AllReadyH.cons rfl (fun K hKK => ?_) AllReadyH.nil))
      · skip
        refine step_app (some 58) (.const (.slice none 0 0)) (.tmp 57) 24 rfl rfl rfl wd10.heap.size 44 Try.underlying24 hi10 hx10 hy10 hz10 rfl (by decide) (by decide) rfl (World.ownsRow_nil _ _ _ _) rfl ((hsf).stay (stay_below' (below_next hB10 hd (Nat.le_refl _)) h.top)) (sites_one hsl hsc) (by omega) hs.sites hd.size ?_
        intro va wy ho hg
        rw [List.nil_append, Nat.zero_add] at ho
        have hxy : Below wd10.heap.size wd10 wy := grown_below (World.ownsRow_nil _ _ 44 2) hg (Nat.le_refl _)
        have hd := below_next hd hxy (Nat.le_refl _)
        refine hKK.out _ _ (hS10 _ (hd)) (fun hHeld => ?_)
        clear hKK K
        try simp only [Act.put, List.setIfInBounds_toArray, List.set_cons_zero, List.set_cons_succ]
        refine r10_1000 _ _ ⟨va, ?_, hd, ho⟩
        simp only [Act.put, List.setIfInBounds_toArray, List.set_cons_zero, List.set_cons_succ]
      · skip
        go_simp
        refine hKK.out _ _ (hS10 _ (Below.alloc hd hd.size _)) (fun hHeld => ?_)
        clear hKK K
        try simp only [Act.put, List.setIfInBounds_toArray, List.set_cons_zero, List.set_cons_succ]
        refine takeD (i := 9) (d := some 61) (v := .agg #[.slice (some ⟨wd10.heap.size, 0, none⟩) 1 1, .bool false]) (by kernel_rfl) (by kernel_rfl) (by kernel_rfl) (by kernel_rfl) (fun _ _ _ h => h) (fun oi h => ?_) hHeld ?_
        · simp only [List.getElem?_toArray, List.getElem?_cons_succ, List.getElem?_cons_zero, Option.some.injEq] at h
          subst h
          refine Or.inl ⟨by rfl, fun w' hSw => ?_⟩
          obtain ⟨x0, x1, x2⟩ := hSw
          go_simp
        try simp only [Act.put, List.setIfInBounds_toArray, List.set_cons_zero, List.set_cons_succ]
        refine r10_0100 _ _ ⟨wd10.heap.size, ?_, Below.alloc hd hd.size _, blk_new wd10 _ _⟩
        simp only [Act.put, List.setIfInBounds_toArray, List.set_cons_zero, List.set_cons_succ]
      · skip
        go_simp
        refine hKK.out _ _ (hS10 _ (Below.alloc hd hd.size _)) (fun hHeld => ?_)
        clear hKK K
        try simp only [Act.put, List.setIfInBounds_toArray, List.set_cons_zero, List.set_cons_succ]
        refine r10_0001 _ _ ⟨wd10.heap.size, ?_, Below.alloc hd hd.size _, ⟨hd.size, blk_new wd10 _ _⟩⟩
        simp only [Act.put, List.setIfInBounds_toArray, List.set_cons_zero, List.set_cons_succ]
    rintro a wx ⟨va, B1, B2, vf, A10, rfl, hd, hb1, hf, hA⟩
    have hHeld := hS10 wx hd
    simp only [Act.put, List.setIfInBounds_toArray, List.set_cons_zero, List.set_cons_succ]
    obtain ⟨xg10, yg10, rfl⟩ := owns_slice hf
    have s0 : wx.cell? ⟨A10, 0, none⟩ = some (.slice none 0 0) := hA.2.cell rfl
    have s1 : wx.cell? ⟨A10, 1, none⟩ = some (.slice none 0 0) := hA.2.cell rfl
    have s2 : wx.cell? ⟨A10, 2, none⟩ = some (.slice none 0 0) := hA.2.cell rfl
    have f0 := hA.2.frozen 0
    have f1 := hA.2.frozen 1
    have f2 := hA.2.frozen 2
    refine wpAnyH_ready (rs := [14]) (by kernel_rfl) (by simp) ?_
    refine AllReadyH.cons rfl (fun K hKK => ?_) AllReadyH.nil
    go_simp
    have kA10 := ((hA.2.set 0 (.slice a1 p.caps.length c1)).set 1 (.slice a2 p.codes.length c2)).set 2 (.slice xg10 (p.sites.length + 1) yg10)
    have hbt : But [A10] wx (((wx.setCell ⟨A10, 0, none⟩ (.slice a1 p.caps.length c1)).setCell ⟨A10, 1, none⟩ (.slice a2 p.codes.length c2)).setCell ⟨A10, 2, none⟩ (.slice xg10 (p.sites.length + 1) yg10)) := (((But.refl _ wx).set (p := ⟨A10, 0, none⟩) (.inl (by simp)) _).set (p := ⟨A10, 1, none⟩) (.inl (by simp)) _).set (p := ⟨A10, 2, none⟩) (.inl (by simp)) _
    generalize ((wx.setCell ⟨A10, 0, none⟩ (.slice a1 p.caps.length c1)).setCell ⟨A10, 1, none⟩ (.slice a2 p.codes.length c2)).setCell ⟨A10, 2, none⟩ (.slice xg10 (p.sites.length + 1) yg10) = wy10 at kA10 hbt ⊢
    have dy : Below wd10.heap.size wd10 wy10 := hd.trans (hbt.below hd.size (by simp; exact hA.1))
    have hAx := hA.2
    have keepT : ∀ (j : Nat) (cs : Array Value) (t : TypeId) (z : Nat × Nat), t ≠ 26 → wx.heap[j]? = some (.cells cs t z) → wy10.heap[j]? = wx.heap[j]? := fun j cs t z ht hj => hbt.block j (Array.getElem?_eq_some_iff.1 hj).1 (by
      rintro hm
      obtain rfl := List.mem_singleton.1 hm
      rw [show wx.heap[j]? = _ from hAx] at hj
      simp only [Option.some.injEq, Obj.cells.injEq] at hj
      exact ht hj.2.1.symm)
    have hf10 := owns_keep hf (fun j cs z _ hj => keepT j cs _ z (by decide) hj)
    have hb10 : Blk wy10 B1 41 ([.bool false, .int .i64 (-1), .int .i64 0, .int .i64 0] : List Value).toArray := (keepT _ _ _ _ (by decide) hb1).trans hb1
    refine hKK.out _ _ (hS10 _ dy) (fun hHeld => ?_)
    clear hKK K
    refine wpAnyH_done (by kernel_rfl) ?_ _
    simp only [PanOnly, Act.put, List.setIfInBounds_toArray, List.set_cons_zero, List.set_cons_succ]
    have hB10e := below_next hB10 dy (Nat.le_refl _)
    have hK10e := hk10.on dy
    have hp10 := more_sites h hB10e hsl hsc hf10 hb10
    have kA9 := kB9_10.later dy kB9_10.lt
    have hp9 := hq9_10.later dy
    clear s0 s1 s2 f0 f1 f2 hbt keepT hAx hA hd hf hf10 dy hHeld hk10 hB10 hS10 hb1 hb10 kB9_10 hq9_10
    go_wp2_with fail
    have hk11 := hK10e.drew
    have hB11 := hB10e.drew
    obtain ⟨i11, hi11, hx11, hy11, hz11⟩ := info_parts infoCode
    have kB9_11 := kA9.drew
    have hq9_11 := hp9.later (Below.refl _ _).drew
    have kB10_11 := kA10.drew
    have hq10_11 := hp10.later (Below.refl _ _).drew
    refine wp_region_pan (R := fun _ _ => False) (fun _ _ _ _ h => h.elim) ?_
    refine wp_region_held_drew (S := fun w' => w'.cell? ⟨w.heap.size, 0, none⟩ = some (.slice a1 p.caps.length c1) ∧ w'.cell? ⟨w.heap.size, 1, none⟩ = some (.slice a2 p.codes.length c2) ∧ w'.cell? ⟨w.heap.size, 2, none⟩ = some (.slice a3 p.sites.length c3)) (by kernel_rfl) ⟨hk11.cell rfl, hk11.cell rfl, hk11.cell rfl⟩ (fun hHeld => ?_)
    generalize wy10.drew = wd11 at hk11 hB11 hHeld kB9_11 hq9_11 kB10_11 hq10_11 ⊢
    clear hK10e hB10e kA9 hp9 kA10 hp10
    have hS11 : ∀ w', Below wd11.heap.size wd11 w' → w'.cell? ⟨w.heap.size, 0, none⟩ = some (.slice a1 p.caps.length c1) ∧ w'.cell? ⟨w.heap.size, 1, none⟩ = some (.slice a2 p.codes.length c2) ∧ w'.cell? ⟨w.heap.size, 2, none⟩ = some (.slice a3 p.sites.length c3) := fun w' hb => by
      have x := hk11.on hb
      exact ⟨x.cell rfl, x.cell rfl, x.cell rfl⟩
    refine takeD (i := 0) (d := some 65) (v := .pointer (some ⟨w.heap.size, 0, none⟩)) (by kernel_rfl) (by kernel_rfl) (by kernel_rfl) (by kernel_rfl) (fun _ _ _ h => h) (fun oi h => ?_) hHeld ?_
    · simp only [List.getElem?_toArray, List.getElem?_cons_succ, List.getElem?_cons_zero, Option.some.injEq] at h
      subst h
      refine Or.inl ⟨by rfl, fun w' hSw => ?_⟩
      obtain ⟨x0, x1, x2⟩ := hSw
      go_simp
    try simp only [Act.put, List.setIfInBounds_toArray, List.set_cons_zero, List.set_cons_succ]
    refine takeD (i := 1) (d := some 66) (v := .slice a1 p.caps.length c1) (by kernel_rfl) (by kernel_rfl) (by kernel_rfl) (by kernel_rfl) (fun _ _ _ h => h) (fun oi h => ?_) hHeld ?_
    · simp only [List.getElem?_toArray, List.getElem?_cons_succ, List.getElem?_cons_zero, Option.some.injEq] at h
      subst h
      refine Or.inl ⟨by rfl, fun w' hSw => ?_⟩
      obtain ⟨x0, x1, x2⟩ := hSw
      go_simp
    try simp only [Act.put, List.setIfInBounds_toArray, List.set_cons_zero, List.set_cons_succ]
    refine takeD (i := 2) (d := some 67) (v := .pointer (some ⟨w.heap.size, 1, none⟩)) (by kernel_rfl) (by kernel_rfl) (by kernel_rfl) (by kernel_rfl) (fun _ _ _ h => h) (fun oi h => ?_) hHeld ?_
    · simp only [List.getElem?_toArray, List.getElem?_cons_succ, List.getElem?_cons_zero, Option.some.injEq] at h
      subst h
      refine Or.inl ⟨by rfl, fun w' hSw => ?_⟩
      obtain ⟨x0, x1, x2⟩ := hSw
      go_simp
    try simp only [Act.put, List.setIfInBounds_toArray, List.set_cons_zero, List.set_cons_succ]
    refine takeD (i := 3) (d := some 68) (v := .slice a2 p.codes.length c2) (by kernel_rfl) (by kernel_rfl) (by kernel_rfl) (by kernel_rfl) (fun _ _ _ h => h) (fun oi h => ?_) hHeld ?_
    · simp only [List.getElem?_toArray, List.getElem?_cons_succ, List.getElem?_cons_zero, Option.some.injEq] at h
      subst h
      refine Or.inl ⟨by rfl, fun w' hSw => ?_⟩
      obtain ⟨x0, x1, x2⟩ := hSw
      go_simp
    try simp only [Act.put, List.setIfInBounds_toArray, List.set_cons_zero, List.set_cons_succ]
    refine takeD (i := 5) (d := some 70) (v := .agg #[.int .u8 10, .int .i64 0, .int .i64 0, .int .i64 0, .int .i64 0]) (by kernel_rfl) (by kernel_rfl) (by kernel_rfl) (by kernel_rfl) (fun _ _ _ h => h) (fun oi h => ?_) hHeld ?_
    · simp only [List.getElem?_toArray, List.getElem?_cons_succ, List.getElem?_cons_zero, Option.some.injEq] at h
      subst h
      refine Or.inl ⟨by rfl, fun w' hSw => ?_⟩
      obtain ⟨x0, x1, x2⟩ := hSw
      go_simp
    try simp only [Act.put, List.setIfInBounds_toArray, List.set_cons_zero, List.set_cons_succ]
    refine takeD (i := 9) (d := some 74) (v := .pointer (some ⟨w.heap.size, 2, none⟩)) (by kernel_rfl) (by kernel_rfl) (by kernel_rfl) (by kernel_rfl) (fun _ _ _ h => h) (fun oi h => ?_) hHeld ?_
    · simp only [List.getElem?_toArray, List.getElem?_cons_succ, List.getElem?_cons_zero, Option.some.injEq] at h
      subst h
      refine Or.inl ⟨by rfl, fun w' hSw => ?_⟩
      obtain ⟨x0, x1, x2⟩ := hSw
      go_simp
    try simp only [Act.put, List.setIfInBounds_toArray, List.set_cons_zero, List.set_cons_succ]
    refine takeD (i := 10) (d := some 75) (v := .slice a3 p.sites.length c3) (by kernel_rfl) (by kernel_rfl) (by kernel_rfl) (by kernel_rfl) (fun _ _ _ h => h) (fun oi h => ?_) hHeld ?_
    · simp only [List.getElem?_toArray, List.getElem?_cons_succ, List.getElem?_cons_zero, Option.some.injEq] at h
      subst h
      refine Or.inl ⟨by rfl, fun w' hSw => ?_⟩
      obtain ⟨x0, x1, x2⟩ := hSw
      go_simp
    try simp only [Act.put, List.setIfInBounds_toArray, List.set_cons_zero, List.set_cons_succ]
    refine wpAnyH_cut (fun a0 a wx => ∃ (va : Value) (B1 : Nat) (B2 : Nat) (vf : Value) (A : Nat), a = ((((((a0.put (some 69) va).put (some 71) (.slice (some ⟨B1, 0, none⟩) 1 1)).put (some 72) (.slice (some ⟨B2, 0, none⟩) 1 1)).put (some 73) vf).put (some 76) (.agg #[.slice a1 p.caps.length c1, vf, .slice a3 p.sites.length c3])).put (some 11) (.pointer (some ⟨A, 0, none⟩))) ∧ (Below wd11.heap.size wd11 wx) ∧ (Blk wx B1 34 ([.int .u8 10, .int .i64 0, .int .i64 0, .int .i64 0, .int .i64 0] : List Value).toArray) ∧ (wx.ownsRow wd11.heap.size 32 1 vf (p.codes.length + 1) (cs ++ [.slice (some ⟨B1, 0, none⟩) 1 1])) ∧ (wd11.heap.size ≤ A ∧ Blk wx A 26 #[.slice none 0 0, .slice none 0 0, .slice none 0 0])) (f' := 1) (l' := #[true, true, true, true, true, true, true, true, true, true, true, true, true, false]) ?_ (fun r11_1211 => ?_)
    rotate_left 1
    · skip
      refine wpAnyH_cut (fun a0 a wx => ∃ (va : Value) (B1 : Nat) (B2 : Nat) (vf : Value), a = (((((a0.put (some 69) va).put (some 71) (.slice (some ⟨B1, 0, none⟩) 1 1)).put (some 72) (.slice (some ⟨B2, 0, none⟩) 1 1)).put (some 73) vf).put (some 76) (.agg #[.slice a1 p.caps.length c1, vf, .slice a3 p.sites.length c3])) ∧ (Below wd11.heap.size wd11 wx) ∧ (Blk wx B1 34 ([.int .u8 10, .int .i64 0, .int .i64 0, .int .i64 0, .int .i64 0] : List Value).toArray) ∧ (wx.ownsRow wd11.heap.size 32 1 vf (p.codes.length + 1) (cs ++ [.slice (some ⟨B1, 0, none⟩) 1 1]))) (f' := 2) (l' := #[true, true, true, true, true, true, true, true, true, true, true, true, false, false]) ?_ (fun r11_1210 => ?_)
      · rintro a wx ⟨va, B1, B2, vf, rfl, hd, hb1, hf⟩
        have hHeld := hS11 wx hd
        simp only [Act.put, List.setIfInBounds_toArray, List.set_cons_zero, List.set_cons_succ]
        refine wpAnyH_ready (rs := [12]) (by kernel_rfl) (by simp) ?_
        refine AllReadyH.cons rfl (fun K hKK => ?_) AllReadyH.nil
        · skip
          go_simp
          refine hKK.out _ _ (hS11 _ (Below.alloc hd hd.size _)) (fun hHeld => ?_)
          clear hKK K
          try simp only [Act.put, List.setIfInBounds_toArray, List.set_cons_zero, List.set_cons_succ]
          refine r11_1211 _ _ ⟨va, B1, B2, vf, wx.heap.size, ?_, Below.alloc hd hd.size _, hb1.alloc _, owns_fresh hf (grown_new wx _), ⟨hd.size, blk_new wx _ _⟩⟩
          simp only [Act.put, List.setIfInBounds_toArray, List.set_cons_zero, List.set_cons_succ]
      refine wpAnyH_cut (fun a0 a wx => ∃ (va : Value) (B1 : Nat) (B2 : Nat) (A : Nat), a = ((((a0.put (some 69) va).put (some 71) (.slice (some ⟨B1, 0, none⟩) 1 1)).put (some 72) (.slice (some ⟨B2, 0, none⟩) 1 1)).put (some 11) (.pointer (some ⟨A, 0, none⟩))) ∧ (Below wd11.heap.size wd11 wx) ∧ (wx.ownsRow wd11.heap.size 32 1 va p.codes.length (cs)) ∧ (Blk wx B1 34 ([.int .u8 10, .int .i64 0, .int .i64 0, .int .i64 0, .int .i64 0] : List Value).toArray) ∧ (Blk wx B2 32 ([.slice (some ⟨B1, 0, none⟩) 1 1] : List Value).toArray) ∧ (wd11.heap.size ≤ A ∧ Blk wx A 26 #[.slice none 0 0, .slice none 0 0, .slice none 0 0])) (f' := 3) (l' := #[true, true, true, true, true, true, true, true, false, true, true, false, true, false]) ?_ (fun r11_1201 => ?_)
      · rintro a wx ⟨va, B1, B2, A, rfl, hd, ho, hb1, hb2, hA⟩
        have hHeld := hS11 wx hd
        simp only [Act.put, List.setIfInBounds_toArray, List.set_cons_zero, List.set_cons_succ]
        refine wpAnyH_ready (rs := [8]) (by kernel_rfl) (by simp) ?_
        refine AllReadyH.cons rfl (fun K hKK => ?_) AllReadyH.nil
        · skip
          refine step_app (some 73) (.tmp 69) (.tmp 72) 23 rfl rfl rfl wd11.heap.size 32 Try.underlying23 hi11 hx11 hy11 hz11 rfl (by decide) (by decide) rfl ho rfl (flat_one (s := 1) hb2 rfl) (by simp only [List.mem_cons, List.not_mem_nil, or_false]; intro u hu; rcases hu with rfl <;> rfl) hs.codes (by omega) hd.size ?_
          intro vf wy hf hg
          obtain ⟨xg, yg, rfl⟩ := owns_slice hf
          have hd' := hd.trans (grown_below ho hg hd.size)
          refine hKK.out _ _ (hS11 _ (hd')) (fun hHeld => ?_)
          clear hKK K
          try simp only [Act.put, List.setIfInBounds_toArray, List.set_cons_zero, List.set_cons_succ]
          refine takeD (i := 11) (d := some 76) (v := .agg #[.slice a1 p.caps.length c1, .slice xg (p.codes.length + 1) yg, .slice a3 p.sites.length c3]) (by kernel_rfl) (by kernel_rfl) (by kernel_rfl) (by kernel_rfl) (fun _ _ _ h => h) (fun oi h => ?_) hHeld ?_
          · simp only [List.getElem?_toArray, List.getElem?_cons_succ, List.getElem?_cons_zero, Option.some.injEq] at h
            subst h
            refine Or.inl ⟨by rfl, fun w' hSw => ?_⟩
            obtain ⟨x0, x1, x2⟩ := hSw
            go_simp
          try simp only [Act.put, List.setIfInBounds_toArray, List.set_cons_zero, List.set_cons_succ]
          refine r11_1211 _ _ ⟨va, B1, B2, .slice xg (p.codes.length + 1) yg, A, ?_, hd', grown_other ho hg hb1 (by decide), hf, ⟨hA.1, grown_other ho hg hA.2 (by decide)⟩⟩
          simp only [Act.put, List.setIfInBounds_toArray, List.set_cons_zero, List.set_cons_succ]
      refine wpAnyH_cut (fun a0 a wx => ∃ (va : Value) (B1 : Nat) (B2 : Nat), a = (((a0.put (some 69) va).put (some 71) (.slice (some ⟨B1, 0, none⟩) 1 1)).put (some 72) (.slice (some ⟨B2, 0, none⟩) 1 1)) ∧ (Below wd11.heap.size wd11 wx) ∧ (wx.ownsRow wd11.heap.size 32 1 va p.codes.length (cs)) ∧ (Blk wx B1 34 ([.int .u8 10, .int .i64 0, .int .i64 0, .int .i64 0, .int .i64 0] : List Value).toArray) ∧ (Blk wx B2 32 ([.slice (some ⟨B1, 0, none⟩) 1 1] : List Value).toArray)) (f' := 4) (l' := #[true, true, true, true, true, true, true, true, false, true, true, false, false, false]) ?_ (fun r11_1200 => ?_)
      · rintro a wx ⟨va, B1, B2, rfl, hd, ho, hb1, hb2⟩
        have hHeld := hS11 wx hd
        simp only [Act.put, List.setIfInBounds_toArray, List.set_cons_zero, List.set_cons_succ]
        refine wpAnyH_ready (rs := [8, 12]) (by kernel_rfl) (by simp) ?_
        refine AllReadyH.cons rfl (fun K hKK => ?_) (AllReadyH.cons rfl (fun K hKK => ?_) AllReadyH.nil)
        · skip
          refine step_app (some 73) (.tmp 69) (.tmp 72) 23 rfl rfl rfl wd11.heap.size 32 Try.underlying23 hi11 hx11 hy11 hz11 rfl (by decide) (by decide) rfl ho rfl (flat_one (s := 1) hb2 rfl) (by simp only [List.mem_cons, List.not_mem_nil, or_false]; intro u hu; rcases hu with rfl <;> rfl) hs.codes (by omega) hd.size ?_
          intro vf wy hf hg
          obtain ⟨xg, yg, rfl⟩ := owns_slice hf
          have hd' := hd.trans (grown_below ho hg hd.size)
          refine hKK.out _ _ (hS11 _ (hd')) (fun hHeld => ?_)
          clear hKK K
          try simp only [Act.put, List.setIfInBounds_toArray, List.set_cons_zero, List.set_cons_succ]
          refine takeD (i := 11) (d := some 76) (v := .agg #[.slice a1 p.caps.length c1, .slice xg (p.codes.length + 1) yg, .slice a3 p.sites.length c3]) (by kernel_rfl) (by kernel_rfl) (by kernel_rfl) (by kernel_rfl) (fun _ _ _ h => h) (fun oi h => ?_) hHeld ?_
          · simp only [List.getElem?_toArray, List.getElem?_cons_succ, List.getElem?_cons_zero, Option.some.injEq] at h
            subst h
            refine Or.inl ⟨by rfl, fun w' hSw => ?_⟩
            obtain ⟨x0, x1, x2⟩ := hSw
            go_simp
          try simp only [Act.put, List.setIfInBounds_toArray, List.set_cons_zero, List.set_cons_succ]
          refine r11_1210 _ _ ⟨va, B1, B2, .slice xg (p.codes.length + 1) yg, ?_, hd', grown_other ho hg hb1 (by decide), hf⟩
          simp only [Act.put, List.setIfInBounds_toArray, List.set_cons_zero, List.set_cons_succ]
        · skip
          go_simp
          refine hKK.out _ _ (hS11 _ (Below.alloc hd hd.size _)) (fun hHeld => ?_)
          clear hKK K
          try simp only [Act.put, List.setIfInBounds_toArray, List.set_cons_zero, List.set_cons_succ]
          refine r11_1201 _ _ ⟨va, B1, B2, wx.heap.size, ?_, Below.alloc hd hd.size _, owns_fresh ho (grown_new wx _), hb1.alloc _, hb2.alloc _, ⟨hd.size, blk_new wx _ _⟩⟩
          simp only [Act.put, List.setIfInBounds_toArray, List.set_cons_zero, List.set_cons_succ]
      refine wpAnyH_cut (fun a0 a wx => ∃ (B1 : Nat) (B2 : Nat) (A : Nat), a = (((a0.put (some 71) (.slice (some ⟨B1, 0, none⟩) 1 1)).put (some 72) (.slice (some ⟨B2, 0, none⟩) 1 1)).put (some 11) (.pointer (some ⟨A, 0, none⟩))) ∧ (Below wd11.heap.size wd11 wx) ∧ (Blk wx B1 34 ([.int .u8 10, .int .i64 0, .int .i64 0, .int .i64 0, .int .i64 0] : List Value).toArray) ∧ (Blk wx B2 32 ([.slice (some ⟨B1, 0, none⟩) 1 1] : List Value).toArray) ∧ (wd11.heap.size ≤ A ∧ Blk wx A 26 #[.slice none 0 0, .slice none 0 0, .slice none 0 0])) (f' := 4) (l' := #[true, true, true, true, false, true, true, true, false, true, true, false, true, false]) ?_ (fun r11_0201 => ?_)
      · rintro a wx ⟨B1, B2, A, rfl, hd, hb1, hb2, hA⟩
        have hHeld := hS11 wx hd
        simp only [Act.put, List.setIfInBounds_toArray, List.set_cons_zero, List.set_cons_succ]
        refine wpAnyH_ready (rs := [4]) (by kernel_rfl) (by simp) ?_
        refine AllReadyH.cons rfl (fun K hKK => ?_) AllReadyH.nil
        · skip
          refine step_app (some 69) (.const (.slice none 0 0)) (.tmp 68) 23 rfl rfl rfl wd11.heap.size 32 Try.underlying23 hi11 hx11 hy11 hz11 rfl (by decide) (by decide) rfl (World.ownsRow_nil _ _ _ _) rfl ((hcf).stay (stay_below' (below_next hB11 hd (Nat.le_refl _)) h.top)) (vals_one hcl hcc) (by omega) hs.codes hd.size ?_
          intro va wy ho hg
          rw [List.nil_append, Nat.zero_add] at ho
          have hxy : Below wx.heap.size wx wy := grown_below (World.ownsRow_nil _ _ 32 1) hg (Nat.le_refl _)
          have hd := below_next hd hxy (Nat.le_refl _)
          refine hKK.out _ _ (hS11 _ (hd)) (fun hHeld => ?_)
          clear hKK K
          try simp only [Act.put, List.setIfInBounds_toArray, List.set_cons_zero, List.set_cons_succ]
          refine r11_1201 _ _ ⟨va, B1, B2, A, ?_, hd, ho, hb1.on hxy, hb2.on hxy, ⟨hA.1, hA.2.on hxy⟩⟩
          simp only [Act.put, List.setIfInBounds_toArray, List.set_cons_zero, List.set_cons_succ]
      refine wpAnyH_cut (fun a0 a wx => ∃ (va : Value) (B1 : Nat) (A : Nat), a = (((a0.put (some 69) va).put (some 71) (.slice (some ⟨B1, 0, none⟩) 1 1)).put (some 11) (.pointer (some ⟨A, 0, none⟩))) ∧ (Below wd11.heap.size wd11 wx) ∧ (wx.ownsRow wd11.heap.size 32 1 va p.codes.length (cs)) ∧ (Blk wx B1 34 ([.int .u8 10, .int .i64 0, .int .i64 0, .int .i64 0, .int .i64 0] : List Value).toArray) ∧ (wd11.heap.size ≤ A ∧ Blk wx A 26 #[.slice none 0 0, .slice none 0 0, .slice none 0 0])) (f' := 4) (l' := #[true, true, true, true, true, true, true, false, false, true, true, false, true, false]) ?_ (fun r11_1101 => ?_)
      · rintro a wx ⟨va, B1, A, rfl, hd, ho, hb1, hA⟩
        have hHeld := hS11 wx hd
        simp only [Act.put, List.setIfInBounds_toArray, List.set_cons_zero, List.set_cons_succ]
        refine wpAnyH_ready (rs := [7]) (by kernel_rfl) (by simp) ?_
        refine AllReadyH.cons rfl (fun K hKK => ?_) AllReadyH.nil
        · skip
          go_simp
          refine hKK.out _ _ (hS11 _ (Below.alloc hd hd.size _)) (fun hHeld => ?_)
          clear hKK K
          try simp only [Act.put, List.setIfInBounds_toArray, List.set_cons_zero, List.set_cons_succ]
          refine r11_1201 _ _ ⟨va, B1, wx.heap.size, A, ?_, Below.alloc hd hd.size _, owns_fresh ho (grown_new wx _), hb1.alloc _, blk_new wx _ _, ⟨hA.1, hA.2.alloc _⟩⟩
          simp only [Act.put, List.setIfInBounds_toArray, List.set_cons_zero, List.set_cons_succ]
      refine wpAnyH_cut (fun a0 a wx => ∃ (B1 : Nat) (B2 : Nat), a = ((a0.put (some 71) (.slice (some ⟨B1, 0, none⟩) 1 1)).put (some 72) (.slice (some ⟨B2, 0, none⟩) 1 1)) ∧ (Below wd11.heap.size wd11 wx) ∧ (Blk wx B1 34 ([.int .u8 10, .int .i64 0, .int .i64 0, .int .i64 0, .int .i64 0] : List Value).toArray) ∧ (Blk wx B2 32 ([.slice (some ⟨B1, 0, none⟩) 1 1] : List Value).toArray)) (f' := 5) (l' := #[true, true, true, true, false, true, true, true, false, true, true, false, false, false]) ?_ (fun r11_0200 => ?_)
      · rintro a wx ⟨B1, B2, rfl, hd, hb1, hb2⟩
        have hHeld := hS11 wx hd
        simp only [Act.put, List.setIfInBounds_toArray, List.set_cons_zero, List.set_cons_succ]
        refine wpAnyH_ready (rs := [4, 12]) (by kernel_rfl) (by simp) ?_
        refine AllReadyH.cons rfl (fun K hKK => ?_) (AllReadyH.cons rfl (fun K hKK => ?_) AllReadyH.nil)
        · skip
          refine step_app (some 69) (.const (.slice none 0 0)) (.tmp 68) 23 rfl rfl rfl wd11.heap.size 32 Try.underlying23 hi11 hx11 hy11 hz11 rfl (by decide) (by decide) rfl (World.ownsRow_nil _ _ _ _) rfl ((hcf).stay (stay_below' (below_next hB11 hd (Nat.le_refl _)) h.top)) (vals_one hcl hcc) (by omega) hs.codes hd.size ?_
          intro va wy ho hg
          rw [List.nil_append, Nat.zero_add] at ho
          have hxy : Below wx.heap.size wx wy := grown_below (World.ownsRow_nil _ _ 32 1) hg (Nat.le_refl _)
          have hd := below_next hd hxy (Nat.le_refl _)
          refine hKK.out _ _ (hS11 _ (hd)) (fun hHeld => ?_)
          clear hKK K
          try simp only [Act.put, List.setIfInBounds_toArray, List.set_cons_zero, List.set_cons_succ]
          refine r11_1200 _ _ ⟨va, B1, B2, ?_, hd, ho, hb1.on hxy, hb2.on hxy⟩
          simp only [Act.put, List.setIfInBounds_toArray, List.set_cons_zero, List.set_cons_succ]
        · skip
          go_simp
          refine hKK.out _ _ (hS11 _ (Below.alloc hd hd.size _)) (fun hHeld => ?_)
          clear hKK K
          try simp only [Act.put, List.setIfInBounds_toArray, List.set_cons_zero, List.set_cons_succ]
          refine r11_0201 _ _ ⟨B1, B2, wx.heap.size, ?_, Below.alloc hd hd.size _, hb1.alloc _, hb2.alloc _, ⟨hd.size, blk_new wx _ _⟩⟩
          simp only [Act.put, List.setIfInBounds_toArray, List.set_cons_zero, List.set_cons_succ]
      refine wpAnyH_cut (fun a0 a wx => ∃ (va : Value) (B1 : Nat), a = ((a0.put (some 69) va).put (some 71) (.slice (some ⟨B1, 0, none⟩) 1 1)) ∧ (Below wd11.heap.size wd11 wx) ∧ (wx.ownsRow wd11.heap.size 32 1 va p.codes.length (cs)) ∧ (Blk wx B1 34 ([.int .u8 10, .int .i64 0, .int .i64 0, .int .i64 0, .int .i64 0] : List Value).toArray)) (f' := 5) (l' := #[true, true, true, true, true, true, true, false, false, true, true, false, false, false]) ?_ (fun r11_1100 => ?_)
      · rintro a wx ⟨va, B1, rfl, hd, ho, hb1⟩
        have hHeld := hS11 wx hd
        simp only [Act.put, List.setIfInBounds_toArray, List.set_cons_zero, List.set_cons_succ]
        refine wpAnyH_ready (rs := [7, 12]) (by kernel_rfl) (by simp) ?_
        refine AllReadyH.cons rfl (fun K hKK => ?_) (AllReadyH.cons rfl (fun K hKK => ?_) AllReadyH.nil)
        · skip
          go_simp
          refine hKK.out _ _ (hS11 _ (Below.alloc hd hd.size _)) (fun hHeld => ?_)
          clear hKK K
          try simp only [Act.put, List.setIfInBounds_toArray, List.set_cons_zero, List.set_cons_succ]
          refine r11_1200 _ _ ⟨va, B1, wx.heap.size, ?_, Below.alloc hd hd.size _, owns_fresh ho (grown_new wx _), hb1.alloc _, blk_new wx _ _⟩
          simp only [Act.put, List.setIfInBounds_toArray, List.set_cons_zero, List.set_cons_succ]
        · skip
          go_simp
          refine hKK.out _ _ (hS11 _ (Below.alloc hd hd.size _)) (fun hHeld => ?_)
          clear hKK K
          try simp only [Act.put, List.setIfInBounds_toArray, List.set_cons_zero, List.set_cons_succ]
          refine r11_1101 _ _ ⟨va, B1, wx.heap.size, ?_, Below.alloc hd hd.size _, owns_fresh ho (grown_new wx _), hb1.alloc _, ⟨hd.size, blk_new wx _ _⟩⟩
          simp only [Act.put, List.setIfInBounds_toArray, List.set_cons_zero, List.set_cons_succ]
      refine wpAnyH_cut (fun a0 a wx => ∃ (B1 : Nat) (A : Nat), a = ((a0.put (some 71) (.slice (some ⟨B1, 0, none⟩) 1 1)).put (some 11) (.pointer (some ⟨A, 0, none⟩))) ∧ (Below wd11.heap.size wd11 wx) ∧ (Blk wx B1 34 ([.int .u8 10, .int .i64 0, .int .i64 0, .int .i64 0, .int .i64 0] : List Value).toArray) ∧ (wd11.heap.size ≤ A ∧ Blk wx A 26 #[.slice none 0 0, .slice none 0 0, .slice none 0 0])) (f' := 5) (l' := #[true, true, true, true, false, true, true, false, false, true, true, false, true, false]) ?_ (fun r11_0101 => ?_)
      · rintro a wx ⟨B1, A, rfl, hd, hb1, hA⟩
        have hHeld := hS11 wx hd
        simp only [Act.put, List.setIfInBounds_toArray, List.set_cons_zero, List.set_cons_succ]
        refine wpAnyH_ready (rs := [4, 7]) (by kernel_rfl) (by simp) ?_
        refine AllReadyH.cons rfl (fun K hKK => ?_) (AllReadyH.cons rfl (fun K hKK => ?_) AllReadyH.nil)
        · skip
          refine step_app (some 69) (.const (.slice none 0 0)) (.tmp 68) 23 rfl rfl rfl wd11.heap.size 32 Try.underlying23 hi11 hx11 hy11 hz11 rfl (by decide) (by decide) rfl (World.ownsRow_nil _ _ _ _) rfl ((hcf).stay (stay_below' (below_next hB11 hd (Nat.le_refl _)) h.top)) (vals_one hcl hcc) (by omega) hs.codes hd.size ?_
          intro va wy ho hg
          rw [List.nil_append, Nat.zero_add] at ho
          have hxy : Below wx.heap.size wx wy := grown_below (World.ownsRow_nil _ _ 32 1) hg (Nat.le_refl _)
          have hd := below_next hd hxy (Nat.le_refl _)
          refine hKK.out _ _ (hS11 _ (hd)) (fun hHeld => ?_)
          clear hKK K
          try simp only [Act.put, List.setIfInBounds_toArray, List.set_cons_zero, List.set_cons_succ]
          refine r11_1101 _ _ ⟨va, B1, A, ?_, hd, ho, hb1.on hxy, ⟨hA.1, hA.2.on hxy⟩⟩
          simp only [Act.put, List.setIfInBounds_toArray, List.set_cons_zero, List.set_cons_succ]
        · skip
          go_simp
          refine hKK.out _ _ (hS11 _ (Below.alloc hd hd.size _)) (fun hHeld => ?_)
          clear hKK K
          try simp only [Act.put, List.setIfInBounds_toArray, List.set_cons_zero, List.set_cons_succ]
          refine r11_0201 _ _ ⟨B1, wx.heap.size, A, ?_, Below.alloc hd hd.size _, hb1.alloc _, blk_new wx _ _, ⟨hA.1, hA.2.alloc _⟩⟩
          simp only [Act.put, List.setIfInBounds_toArray, List.set_cons_zero, List.set_cons_succ]
      refine wpAnyH_cut (fun a0 a wx => ∃ (va : Value) (A : Nat), a = ((a0.put (some 69) va).put (some 11) (.pointer (some ⟨A, 0, none⟩))) ∧ (Below wd11.heap.size wd11 wx) ∧ (wx.ownsRow wd11.heap.size 32 1 va p.codes.length (cs)) ∧ (wd11.heap.size ≤ A ∧ Blk wx A 26 #[.slice none 0 0, .slice none 0 0, .slice none 0 0])) (f' := 5) (l' := #[true, true, true, true, true, true, false, false, false, true, true, false, true, false]) ?_ (fun r11_1001 => ?_)
      · rintro a wx ⟨va, A, rfl, hd, ho, hA⟩
        have hHeld := hS11 wx hd
        simp only [Act.put, List.setIfInBounds_toArray, List.set_cons_zero, List.set_cons_succ]
        refine wpAnyH_ready (rs := [6]) (by kernel_rfl) (by simp) ?_
        refine AllReadyH.cons rfl (fun K hKK => ?_) AllReadyH.nil
        · skip
          go_simp
          refine hKK.out _ _ (hS11 _ (Below.alloc hd hd.size _)) (fun hHeld => ?_)
          clear hKK K
          try simp only [Act.put, List.setIfInBounds_toArray, List.set_cons_zero, List.set_cons_succ]
          refine r11_1101 _ _ ⟨va, wx.heap.size, A, ?_, Below.alloc hd hd.size _, owns_fresh ho (grown_new wx _), blk_new wx _ _, ⟨hA.1, hA.2.alloc _⟩⟩
          simp only [Act.put, List.setIfInBounds_toArray, List.set_cons_zero, List.set_cons_succ]
      refine wpAnyH_cut (fun a0 a wx => ∃ (B1 : Nat), a = (a0.put (some 71) (.slice (some ⟨B1, 0, none⟩) 1 1)) ∧ (Below wd11.heap.size wd11 wx) ∧ (Blk wx B1 34 ([.int .u8 10, .int .i64 0, .int .i64 0, .int .i64 0, .int .i64 0] : List Value).toArray)) (f' := 6) (l' := #[true, true, true, true, false, true, true, false, false, true, true, false, false, false]) ?_ (fun r11_0100 => ?_)
      · rintro a wx ⟨B1, rfl, hd, hb1⟩
        have hHeld := hS11 wx hd
        simp only [Act.put, List.setIfInBounds_toArray, List.set_cons_zero, List.set_cons_succ]
        refine wpAnyH_ready (rs := [4, 7, 12]) (by kernel_rfl) (by simp) ?_
        refine AllReadyH.cons rfl (fun K hKK => ?_) (AllReadyH.cons rfl (fun K hKK => ?_) (AllReadyH.cons rfl (fun K hKK => ?_) AllReadyH.nil))
        · skip
          refine step_app (some 69) (.const (.slice none 0 0)) (.tmp 68) 23 rfl rfl rfl wd11.heap.size 32 Try.underlying23 hi11 hx11 hy11 hz11 rfl (by decide) (by decide) rfl (World.ownsRow_nil _ _ _ _) rfl ((hcf).stay (stay_below' (below_next hB11 hd (Nat.le_refl _)) h.top)) (vals_one hcl hcc) (by omega) hs.codes hd.size ?_
          intro va wy ho hg
          rw [List.nil_append, Nat.zero_add] at ho
          have hxy : Below wx.heap.size wx wy := grown_below (World.ownsRow_nil _ _ 32 1) hg (Nat.le_refl _)
          have hd := below_next hd hxy (Nat.le_refl _)
          refine hKK.out _ _ (hS11 _ (hd)) (fun hHeld => ?_)
          clear hKK K
          try simp only [Act.put, List.setIfInBounds_toArray, List.set_cons_zero, List.set_cons_succ]
          refine r11_1100 _ _ ⟨va, B1, ?_, hd, ho, hb1.on hxy⟩
          simp only [Act.put, List.setIfInBounds_toArray, List.set_cons_zero, List.set_cons_succ]
        · skip
          go_simp
          refine hKK.out _ _ (hS11 _ (Below.alloc hd hd.size _)) (fun hHeld => ?_)
          clear hKK K
          try simp only [Act.put, List.setIfInBounds_toArray, List.set_cons_zero, List.set_cons_succ]
          refine r11_0200 _ _ ⟨B1, wx.heap.size, ?_, Below.alloc hd hd.size _, hb1.alloc _, blk_new wx _ _⟩
          simp only [Act.put, List.setIfInBounds_toArray, List.set_cons_zero, List.set_cons_succ]
        · skip
          go_simp
          refine hKK.out _ _ (hS11 _ (Below.alloc hd hd.size _)) (fun hHeld => ?_)
          clear hKK K
          try simp only [Act.put, List.setIfInBounds_toArray, List.set_cons_zero, List.set_cons_succ]
          refine r11_0101 _ _ ⟨B1, wx.heap.size, ?_, Below.alloc hd hd.size _, hb1.alloc _, ⟨hd.size, blk_new wx _ _⟩⟩
          simp only [Act.put, List.setIfInBounds_toArray, List.set_cons_zero, List.set_cons_succ]
      refine wpAnyH_cut (fun a0 a wx => ∃ (va : Value), a = (a0.put (some 69) va) ∧ (Below wd11.heap.size wd11 wx) ∧ (wx.ownsRow wd11.heap.size 32 1 va p.codes.length (cs))) (f' := 6) (l' := #[true, true, true, true, true, true, false, false, false, true, true, false, false, false]) ?_ (fun r11_1000 => ?_)
      · rintro a wx ⟨va, rfl, hd, ho⟩
        have hHeld := hS11 wx hd
        simp only [Act.put, List.setIfInBounds_toArray, List.set_cons_zero, List.set_cons_succ]
        refine wpAnyH_ready (rs := [6, 12]) (by kernel_rfl) (by simp) ?_
        refine AllReadyH.cons rfl (fun K hKK => ?_) (AllReadyH.cons rfl (fun K hKK => ?_) AllReadyH.nil)
        · skip
          go_simp
          refine hKK.out _ _ (hS11 _ (Below.alloc hd hd.size _)) (fun hHeld => ?_)
          clear hKK K
          try simp only [Act.put, List.setIfInBounds_toArray, List.set_cons_zero, List.set_cons_succ]
          refine r11_1100 _ _ ⟨va, wx.heap.size, ?_, Below.alloc hd hd.size _, owns_fresh ho (grown_new wx _), blk_new wx _ _⟩
          simp only [Act.put, List.setIfInBounds_toArray, List.set_cons_zero, List.set_cons_succ]
        · skip
          go_simp
          refine hKK.out _ _ (hS11 _ (Below.alloc hd hd.size _)) (fun hHeld => ?_)
          clear hKK K
          try simp only [Act.put, List.setIfInBounds_toArray, List.set_cons_zero, List.set_cons_succ]
          refine r11_1001 _ _ ⟨va, wx.heap.size, ?_, Below.alloc hd hd.size _, owns_fresh ho (grown_new wx _), ⟨hd.size, blk_new wx _ _⟩⟩
          simp only [Act.put, List.setIfInBounds_toArray, List.set_cons_zero, List.set_cons_succ]
      refine wpAnyH_cut (fun a0 a wx => ∃ (A : Nat), a = (a0.put (some 11) (.pointer (some ⟨A, 0, none⟩))) ∧ (Below wd11.heap.size wd11 wx) ∧ (wd11.heap.size ≤ A ∧ Blk wx A 26 #[.slice none 0 0, .slice none 0 0, .slice none 0 0])) (f' := 6) (l' := #[true, true, true, true, false, true, false, false, false, true, true, false, true, false]) ?_ (fun r11_0001 => ?_)
      · rintro a wx ⟨A, rfl, hd, hA⟩
        have hHeld := hS11 wx hd
        simp only [Act.put, List.setIfInBounds_toArray, List.set_cons_zero, List.set_cons_succ]
        refine wpAnyH_ready (rs := [4, 6]) (by kernel_rfl) (by simp) ?_
        refine AllReadyH.cons rfl (fun K hKK => ?_) (AllReadyH.cons rfl (fun K hKK => ?_) AllReadyH.nil)
        · skip
          refine step_app (some 69) (.const (.slice none 0 0)) (.tmp 68) 23 rfl rfl rfl wd11.heap.size 32 Try.underlying23 hi11 hx11 hy11 hz11 rfl (by decide) (by decide) rfl (World.ownsRow_nil _ _ _ _) rfl ((hcf).stay (stay_below' (below_next hB11 hd (Nat.le_refl _)) h.top)) (vals_one hcl hcc) (by omega) hs.codes hd.size ?_
          intro va wy ho hg
          rw [List.nil_append, Nat.zero_add] at ho
          have hxy : Below wx.heap.size wx wy := grown_below (World.ownsRow_nil _ _ 32 1) hg (Nat.le_refl _)
          have hd := below_next hd hxy (Nat.le_refl _)
          refine hKK.out _ _ (hS11 _ (hd)) (fun hHeld => ?_)
          clear hKK K
          try simp only [Act.put, List.setIfInBounds_toArray, List.set_cons_zero, List.set_cons_succ]
          refine r11_1001 _ _ ⟨va, A, ?_, hd, ho, ⟨hA.1, hA.2.on hxy⟩⟩
          simp only [Act.put, List.setIfInBounds_toArray, List.set_cons_zero, List.set_cons_succ]
        · skip
          go_simp
          refine hKK.out _ _ (hS11 _ (Below.alloc hd hd.size _)) (fun hHeld => ?_)
          clear hKK K
          try simp only [Act.put, List.setIfInBounds_toArray, List.set_cons_zero, List.set_cons_succ]
          refine r11_0101 _ _ ⟨wx.heap.size, A, ?_, Below.alloc hd hd.size _, blk_new wx _ _, ⟨hA.1, hA.2.alloc _⟩⟩
          simp only [Act.put, List.setIfInBounds_toArray, List.set_cons_zero, List.set_cons_succ]
      have hd : Below wd11.heap.size wd11 wd11 := Below.refl _ _
      refine wpAnyH_ready (rs := [4, 6, 12]) (by kernel_rfl) (by simp) ?_
      refine AllReadyH.cons rfl (fun K hKK => ?_) (AllReadyH.cons rfl (fun K hKK => ?_) (AllReadyH.cons rfl (fun K hKK => ?_) AllReadyH.nil))
      · skip
        refine step_app (some 69) (.const (.slice none 0 0)) (.tmp 68) 23 rfl rfl rfl wd11.heap.size 32 Try.underlying23 hi11 hx11 hy11 hz11 rfl (by decide) (by decide) rfl (World.ownsRow_nil _ _ _ _) rfl ((hcf).stay (stay_below' (below_next hB11 hd (Nat.le_refl _)) h.top)) (vals_one hcl hcc) (by omega) hs.codes hd.size ?_
        intro va wy ho hg
        rw [List.nil_append, Nat.zero_add] at ho
        have hxy : Below wd11.heap.size wd11 wy := grown_below (World.ownsRow_nil _ _ 32 1) hg (Nat.le_refl _)
        have hd := below_next hd hxy (Nat.le_refl _)
        refine hKK.out _ _ (hS11 _ (hd)) (fun hHeld => ?_)
        clear hKK K
        try simp only [Act.put, List.setIfInBounds_toArray, List.set_cons_zero, List.set_cons_succ]
        refine r11_1000 _ _ ⟨va, ?_, hd, ho⟩
        simp only [Act.put, List.setIfInBounds_toArray, List.set_cons_zero, List.set_cons_succ]
      · skip
        go_simp
        refine hKK.out _ _ (hS11 _ (Below.alloc hd hd.size _)) (fun hHeld => ?_)
        clear hKK K
        try simp only [Act.put, List.setIfInBounds_toArray, List.set_cons_zero, List.set_cons_succ]
        refine r11_0100 _ _ ⟨wd11.heap.size, ?_, Below.alloc hd hd.size _, blk_new wd11 _ _⟩
        simp only [Act.put, List.setIfInBounds_toArray, List.set_cons_zero, List.set_cons_succ]
      · skip
        go_simp
        refine hKK.out _ _ (hS11 _ (Below.alloc hd hd.size _)) (fun hHeld => ?_)
        clear hKK K
        try simp only [Act.put, List.setIfInBounds_toArray, List.set_cons_zero, List.set_cons_succ]
        refine r11_0001 _ _ ⟨wd11.heap.size, ?_, Below.alloc hd hd.size _, ⟨hd.size, blk_new wd11 _ _⟩⟩
        simp only [Act.put, List.setIfInBounds_toArray, List.set_cons_zero, List.set_cons_succ]
    rintro a wx ⟨va, B1, B2, vf, A11, rfl, hd, hb1, hf, hA⟩
    have hHeld := hS11 wx hd
    simp only [Act.put, List.setIfInBounds_toArray, List.set_cons_zero, List.set_cons_succ]
    obtain ⟨xg11, yg11, rfl⟩ := owns_slice hf
    have s0 : wx.cell? ⟨A11, 0, none⟩ = some (.slice none 0 0) := hA.2.cell rfl
    have s1 : wx.cell? ⟨A11, 1, none⟩ = some (.slice none 0 0) := hA.2.cell rfl
    have s2 : wx.cell? ⟨A11, 2, none⟩ = some (.slice none 0 0) := hA.2.cell rfl
    have f0 := hA.2.frozen 0
    have f1 := hA.2.frozen 1
    have f2 := hA.2.frozen 2
    refine wpAnyH_ready (rs := [13]) (by kernel_rfl) (by simp) ?_
    refine AllReadyH.cons rfl (fun K hKK => ?_) AllReadyH.nil
    go_simp
    have kA11 := ((hA.2.set 0 (.slice a1 p.caps.length c1)).set 1 (.slice xg11 (p.codes.length + 1) yg11)).set 2 (.slice a3 p.sites.length c3)
    have hbt : But [A11] wx (((wx.setCell ⟨A11, 0, none⟩ (.slice a1 p.caps.length c1)).setCell ⟨A11, 1, none⟩ (.slice xg11 (p.codes.length + 1) yg11)).setCell ⟨A11, 2, none⟩ (.slice a3 p.sites.length c3)) := (((But.refl _ wx).set (p := ⟨A11, 0, none⟩) (.inl (by simp)) _).set (p := ⟨A11, 1, none⟩) (.inl (by simp)) _).set (p := ⟨A11, 2, none⟩) (.inl (by simp)) _
    generalize ((wx.setCell ⟨A11, 0, none⟩ (.slice a1 p.caps.length c1)).setCell ⟨A11, 1, none⟩ (.slice xg11 (p.codes.length + 1) yg11)).setCell ⟨A11, 2, none⟩ (.slice a3 p.sites.length c3) = wy11 at kA11 hbt ⊢
    have dy : Below wd11.heap.size wd11 wy11 := hd.trans (hbt.below hd.size (by simp; exact hA.1))
    have hAx := hA.2
    have keepT : ∀ (j : Nat) (cs : Array Value) (t : TypeId) (z : Nat × Nat), t ≠ 26 → wx.heap[j]? = some (.cells cs t z) → wy11.heap[j]? = wx.heap[j]? := fun j cs t z ht hj => hbt.block j (Array.getElem?_eq_some_iff.1 hj).1 (by
      rintro hm
      obtain rfl := List.mem_singleton.1 hm
      rw [show wx.heap[j]? = _ from hAx] at hj
      simp only [Option.some.injEq, Obj.cells.injEq] at hj
      exact ht hj.2.1.symm)
    have hf11 := owns_keep hf (fun j cs z _ hj => keepT j cs _ z (by decide) hj)
    have hb11 : Blk wy11 B1 34 ([.int .u8 10, .int .i64 0, .int .i64 0, .int .i64 0, .int .i64 0] : List Value).toArray := (keepT _ _ _ _ (by decide) hb1).trans hb1
    refine hKK.out _ _ (hS11 _ dy) (fun hHeld => ?_)
    clear hKK K
    refine wpAnyH_done (by kernel_rfl) ?_ _
    simp only [PanOnly, Act.put, List.setIfInBounds_toArray, List.set_cons_zero, List.set_cons_succ]
    have hB11e := below_next hB11 dy (Nat.le_refl _)
    have hK11e := hk11.on dy
    have hp11 := more_codes h hB11e hcl hcc hf11 hb11
    have kA9 := kB9_11.later dy kB9_11.lt
    have hp9 := hq9_11.later dy
    have kA10 := kB10_11.later dy kB10_11.lt
    have hp10 := hq10_11.later dy
    clear s0 s1 s2 f0 f1 f2 hbt keepT hAx hA hd hf hf11 dy hHeld hk11 hB11 hS11 hb1 hb11 kB9_11 hq9_11 kB10_11 hq10_11
    have hs9 : Small { p with caps := p.caps ++ [most % 9] } := ⟨by have := hT1.caps; simp; omega, hs.codes, hs.sites, hs.code, hs.site⟩
    have hs10 : Small { p with sites := p.sites ++ [siteN] } := ⟨hs.caps, hs.codes, by have := hT1.sites; simp; omega, hs.code, fun x hx => by rcases List.mem_append.1 hx with hx | hx; exact hs.site x hx; obtain rfl := List.mem_singleton.1 hx; decide⟩
    have hs11 : Small { p with codes := p.codes ++ [[endN]] } := ⟨hs.caps, by have := hT1.codes; simp; omega, hs.sites, fun x hx => by rcases List.mem_append.1 hx with hx | hx; exact hs.code x hx; obtain rfl := List.mem_singleton.1 hx; decide, hs.site⟩
    obtain ⟨u9, v9, n9, ht⟩ : ∃ u v z, checkT { p with caps := p.caps ++ [most % 9] } = (u, v, z) := ⟨_, _, _, rfl⟩
    have hz9 : (n9 == 0) = decide ((p.caps.length : Int) < 6) := by
      have e1 : n9 = 0 ↔ checkW { p with caps := p.caps ++ [most % 9] } = none := by rw [← check_zero, ht]
      have e2 := e1.trans (more_chan HC.out (m := most % 9) (by unfold withinB; simp only [Bool.and_eq_true, decide_eq_true_eq]; omega))
      rw [Bool.eq_iff_iff]
      simp only [beq_iff_eq, decide_eq_true_eq]
      rw [e2]; omega
    have hck := progCheck_any wy11 hp9 hs9
    rw [ht] at hck
    simp only at hck
    clear ht
    have f0 : wy11.cell? ⟨A9, 0, none⟩ = some (.slice xg9 (p.caps.length + 1) yg9) := kA9.cell rfl
    have f1 : wy11.cell? ⟨A9, 1, none⟩ = some (.slice a2 p.codes.length c2) := kA9.cell rfl
    have f2 : wy11.cell? ⟨A9, 2, none⟩ = some (.slice a3 p.sites.length c3) := kA9.cell rfl
    go_wp2_with fail
    refine hck.mono ?_
    rintro e m9 ⟨rfl, hb⟩
    clear hck f0 f1 f2
    have kA9 := kA9.on hb
    have kA10 := kA10.on hb
    have kA11 := kA11.on hb
    have hp9 := hp9.later hb
    have hp10 := hp10.later hb
    have hp11 := hp11.later hb
    have hK := hK11e.on hb
    have hB := below_next hB11e hb (Nat.le_refl _)
    clear hb
    obtain ⟨u10, v10, n10, ht⟩ : ∃ u v z, checkT { p with sites := p.sites ++ [siteN] } = (u, v, z) := ⟨_, _, _, rfl⟩
    have hz10 : (n10 == 0) = decide ((p.sites.length : Int) < 12) := by
      have e1 : n10 = 0 ↔ checkW { p with sites := p.sites ++ [siteN] } = none := by rw [← check_zero, ht]
      have e2 := e1.trans (more_site HC.out (s := siteN) ⟨by decide, fun x hx => by obtain rfl := List.mem_singleton.1 hx; simp [mayCaseB, withinB, caseN]⟩)
      rw [Bool.eq_iff_iff]
      simp only [beq_iff_eq, decide_eq_true_eq]
      rw [e2]; omega
    have hck := progCheck_any m9 hp10 hs10
    rw [ht] at hck
    simp only at hck
    clear ht
    have f0 : m9.cell? ⟨A10, 0, none⟩ = some (.slice a1 p.caps.length c1) := kA10.cell rfl
    have f1 : m9.cell? ⟨A10, 1, none⟩ = some (.slice a2 p.codes.length c2) := kA10.cell rfl
    have f2 : m9.cell? ⟨A10, 2, none⟩ = some (.slice xg10 (p.sites.length + 1) yg10) := kA10.cell rfl
    go_wp2_with fail
    refine hck.mono ?_
    rintro e m10 ⟨rfl, hb⟩
    clear hck f0 f1 f2
    have kA9 := kA9.on hb
    have kA10 := kA10.on hb
    have kA11 := kA11.on hb
    have hp9 := hp9.later hb
    have hp10 := hp10.later hb
    have hp11 := hp11.later hb
    have hK := hK.on hb
    have hB := below_next hB hb (Nat.le_refl _)
    clear hb
    obtain ⟨u11, v11, n11, ht⟩ : ∃ u v z, checkT { p with codes := p.codes ++ [[endN]] } = (u, v, z) := ⟨_, _, _, rfl⟩
    have hz11 : (n11 == 0) = decide ((p.codes.length : Int) < 8) := by
      have e1 : n11 = 0 ↔ checkW { p with codes := p.codes ++ [[endN]] } = none := by rw [← check_zero, ht]
      have e2 := e1.trans (more_code HC.out)
      rw [Bool.eq_iff_iff]
      simp only [beq_iff_eq, decide_eq_true_eq]
      rw [e2]; omega
    have hck := progCheck_any m10 hp11 hs11
    rw [ht] at hck
    simp only at hck
    clear ht
    have f0 : m10.cell? ⟨A11, 0, none⟩ = some (.slice a1 p.caps.length c1) := kA11.cell rfl
    have f1 : m10.cell? ⟨A11, 1, none⟩ = some (.slice xg11 (p.codes.length + 1) yg11) := kA11.cell rfl
    have f2 : m10.cell? ⟨A11, 2, none⟩ = some (.slice a3 p.sites.length c3) := kA11.cell rfl
    go_wp2_with fail
    refine hck.mono ?_
    rintro e m11 ⟨rfl, hb⟩
    clear hck f0 f1 f2
    have kA9 := kA9.on hb
    have kA10 := kA10.on hb
    have kA11 := kA11.on hb
    have hp9 := hp9.later hb
    have hp10 := hp10.later hb
    have hp11 := hp11.later hb
    have hK := hK.on hb
    have hB := below_next hB hb (Nat.le_refl _)
    clear hb
    have hsm := same_any m11 hp9 (h.later hB) hs9
    rw [show samePrg { p with caps := p.caps ++ [most % 9] } p = false by simp [samePrg, same_len (xs := p.caps ++ [most % 9]) (ys := p.caps) (f := fun a b : Int => a == b) (by simp)]] at hsm
    have f0 : m11.cell? ⟨A9, 0, none⟩ = some (.slice xg9 (p.caps.length + 1) yg9) := kA9.cell rfl
    have f1 : m11.cell? ⟨A9, 1, none⟩ = some (.slice a2 p.codes.length c2) := kA9.cell rfl
    have f2 : m11.cell? ⟨A9, 2, none⟩ = some (.slice a3 p.sites.length c3) := kA9.cell rfl
    have e0 : m11.cell? ⟨w.heap.size, 0, none⟩ = some (.slice a1 p.caps.length c1) := hK.cell rfl
    have e1 : m11.cell? ⟨w.heap.size, 1, none⟩ = some (.slice a2 p.codes.length c2) := hK.cell rfl
    have e2 : m11.cell? ⟨w.heap.size, 2, none⟩ = some (.slice a3 p.sites.length c3) := hK.cell rfl
    go_wp2_with fail
    refine hsm.mono ?_
    rintro e o9 ⟨rfl, hb⟩
    clear hsm f0 f1 f2 e0 e1 e2
    have kA10 := kA10.on hb
    have kA11 := kA11.on hb
    have hp10 := hp10.later hb
    have hp11 := hp11.later hb
    have hK := hK.on hb
    have hB := below_next hB hb (Nat.le_refl _)
    clear hb
    have hsm := same_any o9 hp10 (h.later hB) hs10
    rw [show samePrg { p with sites := p.sites ++ [siteN] } p = false by simp [samePrg, same_len (xs := p.sites ++ [siteN]) (ys := p.sites) (f := Sit.eq) (by simp)]] at hsm
    have f0 : o9.cell? ⟨A10, 0, none⟩ = some (.slice a1 p.caps.length c1) := kA10.cell rfl
    have f1 : o9.cell? ⟨A10, 1, none⟩ = some (.slice a2 p.codes.length c2) := kA10.cell rfl
    have f2 : o9.cell? ⟨A10, 2, none⟩ = some (.slice xg10 (p.sites.length + 1) yg10) := kA10.cell rfl
    have e0 : o9.cell? ⟨w.heap.size, 0, none⟩ = some (.slice a1 p.caps.length c1) := hK.cell rfl
    have e1 : o9.cell? ⟨w.heap.size, 1, none⟩ = some (.slice a2 p.codes.length c2) := hK.cell rfl
    have e2 : o9.cell? ⟨w.heap.size, 2, none⟩ = some (.slice a3 p.sites.length c3) := hK.cell rfl
    go_wp2_with fail
    refine hsm.mono ?_
    rintro e o10 ⟨rfl, hb⟩
    clear hsm f0 f1 f2 e0 e1 e2
    have kA10 := kA10.on hb
    have kA11 := kA11.on hb
    have hp10 := hp10.later hb
    have hp11 := hp11.later hb
    have hK := hK.on hb
    have hB := below_next hB hb (Nat.le_refl _)
    clear hb
    have hsm := same_any o10 hp11 (h.later hB) hs11
    rw [show samePrg { p with codes := p.codes ++ [[endN]] } p = false by simp [samePrg, same_len (xs := p.codes ++ [[endN]]) (ys := p.codes) (f := sameL In.eq) (by simp)]] at hsm
    have f0 : o10.cell? ⟨A11, 0, none⟩ = some (.slice a1 p.caps.length c1) := kA11.cell rfl
    have f1 : o10.cell? ⟨A11, 1, none⟩ = some (.slice xg11 (p.codes.length + 1) yg11) := kA11.cell rfl
    have f2 : o10.cell? ⟨A11, 2, none⟩ = some (.slice a3 p.sites.length c3) := kA11.cell rfl
    have e0 : o10.cell? ⟨w.heap.size, 0, none⟩ = some (.slice a1 p.caps.length c1) := hK.cell rfl
    have e1 : o10.cell? ⟨w.heap.size, 1, none⟩ = some (.slice a2 p.codes.length c2) := hK.cell rfl
    have e2 : o10.cell? ⟨w.heap.size, 2, none⟩ = some (.slice a3 p.sites.length c3) := hK.cell rfl
    go_wp2_with fail
    refine hsm.mono ?_
    rintro e o11 ⟨rfl, hb⟩
    clear hsm f0 f1 f2 e0 e1 e2
    have kA10 := kA10.on hb
    have kA11 := kA11.on hb
    have hp10 := hp10.later hb
    have hp11 := hp11.later hb
    have hK := hK.on hb
    have hB := below_next hB hb (Nat.le_refl _)
    clear hb
    go_wp2_with fail
    refine (alive_any _).mono ?_
    rintro e wg ⟨rfl, hg⟩
    go_wp2_with fail
    go_ret
    exact ⟨rfl, below_next hB hg (Nat.le_refl _)⟩
end Go.Proofs.Ytbbgeopgigeioaa
