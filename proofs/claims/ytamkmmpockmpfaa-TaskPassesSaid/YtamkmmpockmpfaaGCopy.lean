/-
  The walks of copyRow, copySite, Copy: another program, in blocks of the call's own.
-/
import Derived.Test.YtamkmmpockmpfaaGClone
namespace Go.Proofs.Ytamkmmpockmpfaa
open Go.RowKit

def OwnCode (base : Nat) (W : World) (v : Value) (x : List In) : Prop := W.ownsRow base 77 5 v x.length (x.flatMap In.cellsL)
def OwnCases (base : Nat) (W : World) (v : Value) (x : List Cas) : Prop := W.ownsRow base 75 4 v x.length (x.flatMap Cas.cellsL)
/-- A row of codes of the call's own, of which each is. -/
def OwnCodes (base : Nat) (W : World) (v : Value) (l : List (List In)) : Prop :=
  ∃ us : List Value, W.ownsRow base 49 1 v l.length us ∧ ∀ (k : Nat) (u : Value) (x : List In), us[k]? = some u → l[k]? = some x → OwnCode base W u x
def OwnSites (base : Nat) (W : World) (v : Value) (l : List Sit) : Prop :=
  ∃ xs : List Value, W.ownsRow base 41 2 v l.length xs ∧ ∀ (k : Nat) (x : Sit), l[k]? = some x → ∃ u, xs[k * 2]? = some u ∧ xs[k * 2 + 1]? = some (.bool x.d) ∧ OwnCases base W u x.cs
/-- A program of the call's own. -/
structure OwnPrg (base : Nat) (W : World) (v1 v2 v3 : Value) (p : Prg) : Prop where
  caps : W.ownsRow base 3 1 v1 p.caps.length (I64 p.caps)
  codes : OwnCodes base W v2 p.codes
  sites : OwnSites base W v3 p.sites

theorem vals_one {lo hi : Nat} {W : World} {vs : List Value} {l : List (List In)} (hl : vs.length = l.length) (h : ∀ (k : Nat) (u : Value) (x : List In), vs[k]? = some u → l[k]? = some x → CodeAt lo hi W u x) : ∀ u ∈ vs, u.oneCell' = true := by
  intro u hu
  obtain ⟨k, hk, rfl⟩ := List.mem_iff_getElem.1 hu
  obtain ⟨a, c, e⟩ := (h k _ _ (List.getElem?_eq_getElem hk) (List.getElem?_eq_getElem (by omega))).slice
  rw [e]; rfl

theorem owns_block {w : World} {base n s : Nat} {e : TypeId} {ga : Option Addr} {g c : Nat} {xs : List Value} (h : w.ownsRow base e s (.slice ga n c) n xs) (hg : ga = some ⟨g, 0, none⟩) : base ≤ g ∧ ∃ cur, w.heap[g]? = some (.cells cur e (0, 0)) := by
  subst hg
  rcases h.2 with ⟨h0, _⟩ | ⟨g', cap, cur, he, hge, hc, _⟩
  · cases h0
  · simp only [Value.slice.injEq, Option.some.injEq, Addr.mk.injEq] at he
    obtain ⟨⟨rfl, -, -⟩, -, -⟩ := he
    exact ⟨hge, cur, hc⟩
theorem owns_beside {w : World} {base n s : Nat} {e e' : TypeId} {v : Value} {xs : List Value} (h : w.ownsRow base e s v n xs) {g k : Nat} {cur : Array Value} {z : Nat × Nat} (hg : w.heap[g]? = some (.cells cur e' z)) (he : e' ≠ e) (u : Value) : (w.setCell ⟨g, k, none⟩ u).ownsRow base e s v n xs :=
  owns_keep h fun j cs z' _ hj => Below.heap_setCell w ⟨g, k, none⟩ u j (by
    intro e1
    simp only at e1
    subst e1
    rw [hg] at hj
    simp only [Option.some.injEq, Obj.cells.injEq] at hj
    exact he hj.2.1)

set_option maxHeartbeats 800000 in
theorem copyCodes_any {lo hi : Nat} {v : Value} {l : List (List In)} (w : World) (h : CodesAt lo hi w v l) (t : hi ≤ w.heap.size) (hn : l.length ≤ 1000000) (hm : ∀ x ∈ l, x.length ≤ 1000000) :
    Calls Try.prog 35 #[v, .func (.func 36) #[] #[]] w fun e w' => ∃ v', e = .returned v' ∧ OwnCodes w.heap.size w' v' l ∧ Below w.heap.size w w' := by
  obtain ⟨vs, hf, hc⟩ := id h
  have hlen := hf.1
  have hcl := cloneCode_any w hf t (vals_one (by omega) hc) hn
  obtain ⟨a, c, rfl⟩ := h.slice
  clear hf hc
  go_enter Try.func35, Try.ntmps35
  go_wp2_with fail
  refine hcl.mono ?_
  rintro e w1 ⟨v1, rfl, hown, hb1⟩
  obtain ⟨a1, c1, rfl⟩ := owns_slice hown
  clear hcl
  go_wp2_with fail
  go_loopw [12] (fun iv wr => ∃ (k : Nat) (us : List Value), k ≤ l.length ∧ iv = .int .i64 (k : Int) ∧ Below w.heap.size w wr ∧ wr.ownsRow w.heap.size 49 1 (.slice a1 l.length c1) l.length us ∧
    Hid (∀ (j : Nat) (u : Value) (x : List In), j < k → us[j]? = some u → l[j]? = some x → OwnCode w.heap.size wr u x)) (fun iv _ => l.length - (intOf iv).toNat)
  case atStart => exact ⟨0, vs, Nat.zero_le _, rfl, hb1, hown, Lib.hid (fun j u x hj => by omega)⟩
  case round =>
    clear hown hb1
    obtain ⟨k, us, hk, rfl, hB, hown, HN⟩ := hrel
    by_cases hlt : k < l.length
    · have hlt' : (k : Int) < (l.length : Int) := by omega
      have k0 : (0 : Int) ≤ (k : Int) := by omega
      have hw1 : IntKind.i64.wrap ((k : Int) + 1) = (k : Int) + 1 := by rw [IntKind.wrap_i64]; omega
      obtain ⟨b, off, ra, rc, x, rfl, -, -, hx, hcell, hrx⟩ := (h.stay (stay_below' hB t)).at hlt
      have hul : us.length = l.length := by have := hown.1; omega
      obtain ⟨g, rfl⟩ : ∃ g, a1 = some ⟨g, 0, none⟩ := by
        rcases hown.2 with ⟨_, h0⟩ | ⟨g, cap, cur, he, _⟩
        · omega
        · simp only [Value.slice.injEq] at he
          exact ⟨g, he.1⟩
      have hcl := cloneIns_any wr hrx.1 (Nat.le_trans t hB.size) (ins_one x) (hm x (List.mem_of_getElem? hx))
      have HX := Lib.hid hx
      clear hx hrx
      go_wp2_with fail
      refine hcl.mono ?_
      rintro e w2 ⟨v2, rfl, hown2, hb2⟩
      obtain ⟨a2, c2, rfl⟩ := owns_slice hown2
      have hownA := owns_fresh hown hb2
      have hB2 := below_next hB hb2 (Nat.le_refl _)
      have hz := hownA.frozenAt k
      have hkc : w2.cell? ⟨g, k, none⟩ = some (us[k]'(by omega)) := by rw [hownA.cellAt k (by omega), List.getElem?_eq_getElem]
      have HA := hownA.stored k (.slice a2 x.length c2)
      obtain ⟨hg0, cur, hgc⟩ := owns_block hownA rfl
      clear hcl
      go_wp2_with fail
      go_round
      case rel =>
        refine ⟨k + 1, us.set k (.slice a2 x.length c2), by omega, by go_num, hB2.setCell (p := ⟨g, k, none⟩) hg0 _, HA.1, Lib.hid (fun j u y hj hu hy => ?_)⟩
        by_cases e : j = k
        · subst e
          rw [HX.out] at hy
          cases hy
          rw [List.getElem?_set_self (by omega)] at hu
          cases hu
          exact owns_beside (owns_base hown2 hB.size) hgc (by decide) _
        · rw [List.getElem?_set_ne (by omega)] at hu
          exact owns_beside (owns_fresh (HN.out j u y (by omega) hu hy) hb2) hgc (by decide) _
      case measure => simp [intOf]; omega
    · have hlt' : ¬ (k : Int) < (l.length : Int) := by omega
      go_wp2_with fail
      go_ret
      exact ⟨_, rfl, ⟨us, hown, fun j u x hu hx => HN.out j u x (by have := (List.getElem?_eq_some_iff.1 hx).1; omega) hu hx⟩, hB⟩

set_option linter.unusedSimpArgs false in
set_option maxHeartbeats 800000 in
theorem copySite_any {lo hi : Nat} {v : Value} {x : Sit} (w : World) (h : CasesAt lo hi w v x.cs) (t : hi ≤ w.heap.size) (hn : x.cs.length ≤ 1000000) :
    Calls Try.prog 38 #[.agg #[v, .bool x.d]] w fun e w' => ∃ v', e = .returned (.agg #[v', .bool x.d]) ∧ OwnCases w.heap.size w' v' x.cs ∧ Below w.heap.size w w' := by
  obtain ⟨xc, d⟩ := x
  simp only at h hn ⊢
  obtain ⟨a, c, rfl⟩ := h.slice
  have hb := below2 w (.cells #[.slice a xc.length c, .bool d] 41) (.cells #[.slice none 0 0, .bool false] 41)
  obtain ⟨W, hW⟩ : ∃ W, W = (w.alloc (.cells #[.slice a xc.length c, .bool d] 41)).alloc (.cells #[.slice none 0 0, .bool false] 41) := ⟨_, rfl⟩
  have z0 : Blk W w.heap.size 41 #[.slice a xc.length c, .bool d] := by rw [hW]; exact (blk_new w _ _).alloc _
  have z1 : Blk W (w.heap.size + 1) 41 #[.slice none 0 0, .bool false] := by have := blk_new (w.alloc (.cells #[.slice a xc.length c, .bool d] 41)) 41 #[.slice none 0 0, .bool false]; rw [World.size_alloc] at this; rw [hW]; exact this
  rw [← hW] at hb
  have hcl := cloneCase_any W.drew (h.stay (stay_below' hb.drew t)).1 (Nat.le_trans t hb.size) (case_one xc) hn
  have s0 : W.cell? ⟨w.heap.size, 0, none⟩ = some (.slice a xc.length c) := z0.cell rfl
  have s1 : W.cell? ⟨w.heap.size, 1, none⟩ = some (.bool d) := z0.cell rfl
  have s2 : W.cell? ⟨w.heap.size + 1, 0, none⟩ = some (.slice none 0 0) := z1.cell rfl
  have s3 : W.cell? ⟨w.heap.size + 1, 1, none⟩ = some (.bool false) := z1.cell rfl
  have f0 := z1.frozen 0
  have f1 := z1.frozen 1
  go_enter Try.func38, Try.ntmps38
  go_wp2_with fail
  rw [← hW]
  have HW := Lib.hid hW
  clear hW
  refine wp_region_pan (R := fun _ _ => False) (fun _ _ _ _ h => h.elim) ?_
  refine wp_region_held_drew (S := fun w' => w'.cell? ⟨w.heap.size, 0, none⟩ = some (.slice a xc.length c) ∧ w'.cell? ⟨w.heap.size, 1, none⟩ = some (.bool d)) (by kernel_rfl) ⟨s0, s1⟩ (fun hHeld => ?_)
  refine wpAnyH_take (i := 0) (v := .pointer (some ⟨w.heap.size, 0, none⟩)) rfl (by kernel_rfl) (by kernel_rfl) (by kernel_rfl) (fun _ _ _ h => h) (Or.inl ⟨by rfl, ?_⟩) hHeld ?_
  · intro w' hSw
    obtain ⟨x0, x1⟩ := hSw
    go_simp
  try simp only [Act.put, List.setIfInBounds_toArray, List.set_cons_zero, List.set_cons_succ]
  refine wpAnyH_take (i := 1) (v := .slice a xc.length c) rfl (by kernel_rfl) (by kernel_rfl) (by kernel_rfl) (fun _ _ _ h => h) (Or.inl ⟨by rfl, ?_⟩) hHeld ?_
  · intro w' hSw
    obtain ⟨x0, x1⟩ := hSw
    go_simp
  try simp only [Act.put, List.setIfInBounds_toArray, List.set_cons_zero, List.set_cons_succ]
  refine wpAnyH_take (i := 3) (v := .pointer (some ⟨w.heap.size, 1, none⟩)) rfl (by kernel_rfl) (by kernel_rfl) (by kernel_rfl) (fun _ _ _ h => h) (Or.inl ⟨by rfl, ?_⟩) hHeld ?_
  · intro w' hSw
    obtain ⟨x0, x1⟩ := hSw
    go_simp
  try simp only [Act.put, List.setIfInBounds_toArray, List.set_cons_zero, List.set_cons_succ]
  refine wpAnyH_take (i := 4) (v := .bool d) rfl (by kernel_rfl) (by kernel_rfl) (by kernel_rfl) (fun _ _ _ h => h) (Or.inl ⟨by rfl, ?_⟩) hHeld ?_
  · intro w' hSw
    obtain ⟨x0, x1⟩ := hSw
    go_simp
  try simp only [Act.put, List.setIfInBounds_toArray, List.set_cons_zero, List.set_cons_succ]
  refine wpAnyH_ready (rs := [2]) (by kernel_rfl) (by simp) ?_
  refine AllReadyH.cons rfl (fun K hKK => ?_) AllReadyH.nil
  go_simp
  refine hcl.mono ?_
  rintro e w2 ⟨v2, rfl, hown2, hb2⟩
  obtain ⟨a2, c2, rfl⟩ := owns_slice hown2
  refine hKK.out _ _ ⟨keepB hb2 hHeld.1, keepB hb2 hHeld.2⟩ (fun hHeld => ?_)
  clear hKK K
  try simp only [Act.put, List.setIfInBounds_toArray, List.set_cons_zero, List.set_cons_succ]
  refine wpAnyH_take (i := 5) (v := .agg #[.slice a2 xc.length c2, .bool d]) rfl (by kernel_rfl) (by kernel_rfl) (by kernel_rfl) (fun _ _ _ h => h) (Or.inl ⟨by rfl, ?_⟩) hHeld ?_
  · intro w' hSw
    obtain ⟨x0, x1⟩ := hSw
    go_simp
  try simp only [Act.put, List.setIfInBounds_toArray, List.set_cons_zero, List.set_cons_succ]
  have y1 := z1.drew.later (W' := w2) hb2 z1.lt
  have t0 : w2.cell? ⟨w.heap.size + 1, 0, none⟩ = some (.slice none 0 0) := y1.cell rfl
  have t1 : w2.cell? ⟨w.heap.size + 1, 1, none⟩ = some (.bool false) := y1.cell rfl
  have g0 := y1.frozen 0
  have g1 := y1.frozen 1
  clear s2 s3 f0 f1
  refine wpAnyH_ready (rs := [6]) (by kernel_rfl) (by simp) ?_
  refine AllReadyH.cons rfl (fun K hKK => ?_) AllReadyH.nil
  go_simp
  have y2 := (y1.set 0 (.slice a2 xc.length c2)).set 1 (.bool d)
  have hbt : But [w.heap.size + 1] w2 ((w2.setCell ⟨w.heap.size + 1, 0, none⟩ (.slice a2 xc.length c2)).setCell ⟨w.heap.size + 1, 1, none⟩ (.bool d)) := ((But.refl _ w2).set (p := ⟨w.heap.size + 1, 0, none⟩) (.inl (by simp)) _).set (p := ⟨w.heap.size + 1, 1, none⟩) (.inl (by simp)) _
  refine hKK.out _ _ ⟨hbt.cell hHeld.1 (by simp), hbt.cell hHeld.2 (by simp)⟩ (fun _ => ?_)
  clear hKK K
  refine wpAnyH_done (by kernel_rfl) ?_ _
  simp only [PanOnly, Act.put, List.setIfInBounds_toArray, List.set_cons_zero, List.set_cons_succ]
  have q0 : ((w2.setCell ⟨w.heap.size + 1, 0, none⟩ (.slice a2 xc.length c2)).setCell ⟨w.heap.size + 1, 1, none⟩ (.bool d)).cell? ⟨w.heap.size + 1, 0, none⟩ = some (.slice a2 xc.length c2) := y2.cell rfl
  have q1 : ((w2.setCell ⟨w.heap.size + 1, 0, none⟩ (.slice a2 xc.length c2)).setCell ⟨w.heap.size + 1, 1, none⟩ (.bool d)).cell? ⟨w.heap.size + 1, 1, none⟩ = some (.bool d) := y2.cell rfl
  have hfin : Below w.heap.size w ((w2.setCell ⟨w.heap.size + 1, 0, none⟩ (.slice a2 xc.length c2)).setCell ⟨w.heap.size + 1, 1, none⟩ (.bool d)) := (below_next hb.drew hb2 (Nat.le_refl _)).trans (hbt.below (by have := hb.size; have := hb2.size; simp at this; omega) (by simp))
  have hown3 : ((w2.setCell ⟨w.heap.size + 1, 0, none⟩ (.slice a2 xc.length c2)).setCell ⟨w.heap.size + 1, 1, none⟩ (.bool d)).ownsRow w.heap.size 75 4 (.slice a2 xc.length c2) xc.length (xc.flatMap Cas.cellsL) :=
    owns_beside (owns_beside (owns_base hown2 hb.size) y1 (by decide) _) (y1.set 0 (.slice a2 xc.length c2)) (by decide) _
  generalize (w2.setCell ⟨w.heap.size + 1, 0, none⟩ (.slice a2 xc.length c2)).setCell ⟨w.heap.size + 1, 1, none⟩ (.bool d) = w3 at q0 q1 hfin hown3 ⊢
  clear hbt y2
  go_wp2_with fail
  refine bodyPost_ret (v := .agg #[.slice a2 xc.length c2, .bool d]) (by simp [results, Try.f38, go_sem, q0, q1]) rfl ?_
  exact ⟨_, rfl, hown3, hfin⟩
end Go.Proofs.Ytamkmmpockmpfaa
