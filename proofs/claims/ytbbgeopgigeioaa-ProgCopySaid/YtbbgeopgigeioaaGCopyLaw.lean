/-
  The walk of the law ProgCopy.
-/
import Derived.Test.YtbbgeopgigeioaaGRefSame
import Derived.Test.YtbbgeopgigeioaaGWrite
namespace Go.Proofs.Ytbbgeopgigeioaa
open Go.RowKit

theorem OwnPrg.lower {base base' : Nat} {W : World} {v1 v2 v3 : Value} {p : Prg} (h : OwnPrg base W v1 v2 v3 p) (hb : base' ≤ base) : OwnPrg base' W v1 v2 v3 p := ⟨owns_base h.caps hb, h.codes.lower hb, h.sites.lower hb⟩
/-- The first copy, as it was made at w1. -/
def C1 (wd : World) (p : Prg) (wx : World) (v : Value) : Prop := ∃ x1 x2 x3 w1, v = .agg #[x1, x2, x3] ∧ Below wd.heap.size wd w1 ∧ OwnPrg wd.heap.size w1 x1 x2 x3 p ∧ Below w1.heap.size w1 wx
/-- Both copies: the second lies behind all that the first has. -/
def C2 (wd : World) (p : Prg) (wx : World) (v v' : Value) : Prop := ∃ x1 x2 x3 w1 y1 y2 y3 w2, v = .agg #[x1, x2, x3] ∧ v' = .agg #[y1, y2, y3] ∧ Below wd.heap.size wd w1 ∧ OwnPrg wd.heap.size w1 x1 x2 x3 p ∧ Below w1.heap.size w1 w2 ∧ OwnPrg w1.heap.size w2 y1 y2 y3 p ∧ Below w2.heap.size w2 wx
def FA (wd wx : World) (A : Nat) : Prop := wd.heap.size ≤ A ∧ Blk wx A 26 #[.slice none 0 0, .slice none 0 0, .slice none 0 0]
section
variable {wd wx wy : World} {p : Prg} {v v' u1 u2 u3 : Value} {A : Nat}
theorem C1.below (h : C1 wd p wx v) : Below wd.heap.size wd wx := by obtain ⟨_, _, _, w1, _, h1, _, h2⟩ := h; exact below_next h1 h2 (Nat.le_refl _)
theorem C2.below (h : C2 wd p wx v v') : Below wd.heap.size wd wx := by
  obtain ⟨_, _, _, w1, _, _, _, w2, _, _, h1, _, h2, _, h3⟩ := h
  exact below_next (below_next h1 h2 (Nat.le_refl _)) h3 (Nat.le_refl _)
theorem C1.on (h : C1 wd p wx v) (hb : Below wx.heap.size wx wy) : C1 wd p wy v := by
  obtain ⟨x1, x2, x3, w1, e, h1, h2, h3⟩ := h
  exact ⟨x1, x2, x3, w1, e, h1, h2, below_next h3 hb (Nat.le_refl _)⟩
theorem C2.on (h : C2 wd p wx v v') (hb : Below wx.heap.size wx wy) : C2 wd p wy v v' := by
  obtain ⟨x1, x2, x3, w1, y1, y2, y3, w2, e1, e2, h1, h2, h3, h4, h5⟩ := h
  exact ⟨x1, x2, x3, w1, y1, y2, y3, w2, e1, e2, h1, h2, h3, h4, below_next h5 hb (Nat.le_refl _)⟩
theorem c_one (h : Below wd.heap.size wd wx) (ho : OwnPrg wx.heap.size wy u1 u2 u3 p) (hb : Below wx.heap.size wx wy) : C1 wd p wy (.agg #[u1, u2, u3]) :=
  ⟨u1, u2, u3, wy, rfl, below_next h hb (Nat.le_refl _), ho.lower h.size, Below.refl _ _⟩
theorem C1.two (h : C1 wd p wx v) (ho : OwnPrg wx.heap.size wy u1 u2 u3 p) (hb : Below wx.heap.size wx wy) : C2 wd p wy v (.agg #[u1, u2, u3]) := by
  obtain ⟨x1, x2, x3, w1, e, h1, h2, h3⟩ := h
  exact ⟨x1, x2, x3, w1, u1, u2, u3, wy, e, rfl, h1, h2, below_next h3 hb (Nat.le_refl _), ho.lower h3.size, Below.refl _ _⟩
theorem FA.on (h : FA wd wx A) (hb : Below wx.heap.size wx wy) : FA wd wy A := ⟨h.1, h.2.on hb⟩
theorem FA.lt (h : FA wd wx A) : A < wx.heap.size := h.2.lt
theorem grown_new (w : World) (o : Obj) : Below w.heap.size w (w.alloc o) := (Below.refl _ w).alloc (Nat.le_refl _) o
theorem fa_new (h : Below wd.heap.size wd wx) : FA wd (wx.alloc (.cells #[.slice none 0 0, .slice none 0 0, .slice none 0 0] 26)) wx.heap.size := ⟨h.size, blk_new wx _ _⟩
end

set_option linter.unusedSimpArgs false in
set_option maxRecDepth 100000 in
set_option maxHeartbeats 6400000 in
theorem copylaw_any {lo hi : Nat} {v1 v2 v3 : Value} {p : Prg} (w : World) (h : PrgAt lo hi w v1 v2 v3 p) :
    Calls Try.prog 5 #[.agg #[v1, v2, v3]] w fun e w' => e = .returned (.bool true) ∧ Below w.heap.size w w' := by
  obtain ⟨a1, c1, rfl⟩ := h.caps.slice
  obtain ⟨a2, c2, rfl⟩ := h.codes.slice
  obtain ⟨a3, c3, rfl⟩ := h.sites.slice
  have hb0 : Below w.heap.size w (w.alloc (.cells #[.slice a1 p.caps.length c1, .slice a2 p.codes.length c2, .slice a3 p.sites.length c3] 26)) := (Below.refl _ w).alloc (Nat.le_refl _) _
  have hk0 := blk_new w 26 #[.slice a1 p.caps.length c1, .slice a2 p.codes.length c2, .slice a3 p.sites.length c3]
  have hlong := long_any _ (h.later hb0)
  go_enter Try.func5, Try.ntmps5
  go_wp2_with fail
  refine hlong.mono ?_
  rintro e w1 ⟨b, rfl, hT, hb1⟩
  have hB1 := below_next hb0 hb1 (Nat.le_refl _)
  have hK1 := hk0.later hb1 hk0.lt
  clear hb0 hk0 hlong hb1
  cases b with
  | true =>
    go_wp2_with fail
    refine (alive_any _).mono ?_
    rintro e w2 ⟨rfl, hb2⟩
    go_wp2_with fail
    go_ret
    exact ⟨rfl, below_next hB1 hb2 (Nat.le_refl _)⟩
  | false =>
    have hs := (hT rfl).small
    clear hT
    go_wp2_with fail
    refine wp_region_pan (R := fun _ _ => False) (fun _ _ _ _ h => h.elim) ?_
    have hKd := hK1.drew
    have hBd := hB1.drew
    refine wp_region_held_drew (S := fun w' => w'.cell? ⟨w.heap.size, 0, none⟩ = some (.slice a1 p.caps.length c1) ∧ w'.cell? ⟨w.heap.size, 1, none⟩ = some (.slice a2 p.codes.length c2) ∧ w'.cell? ⟨w.heap.size, 2, none⟩ = some (.slice a3 p.sites.length c3)) (by kernel_rfl) ⟨hKd.cell rfl, hKd.cell rfl, hKd.cell rfl⟩ (fun hHeld => ?_)
    generalize w1.drew = wd at hKd hBd hHeld ⊢
    clear hK1 hB1
    have hS : ∀ w', Below wd.heap.size wd w' → w'.cell? ⟨w.heap.size, 0, none⟩ = some (.slice a1 p.caps.length c1) ∧ w'.cell? ⟨w.heap.size, 1, none⟩ = some (.slice a2 p.codes.length c2) ∧ w'.cell? ⟨w.heap.size, 2, none⟩ = some (.slice a3 p.sites.length c3) := fun w' hb => by
      have x := hKd.on hb
      exact ⟨x.cell rfl, x.cell rfl, x.cell rfl⟩
    have hP : ∀ w', Below wd.heap.size wd w' → PrgAt lo hi w' (.slice a1 p.caps.length c1) (.slice a2 p.codes.length c2) (.slice a3 p.sites.length c3) p := fun w' hb => (h.later hBd).later hb
    refine takeD (i := 0) (d := some 13) (v := .agg #[.slice a1 p.caps.length c1, .slice a2 p.codes.length c2, .slice a3 p.sites.length c3]) (by kernel_rfl) (by kernel_rfl) (by kernel_rfl) (by kernel_rfl) (fun _ _ _ h => h) (fun oi h => ?_) hHeld ?_
    · simp only [List.getElem?_toArray, List.getElem?_cons_succ, List.getElem?_cons_zero, Option.some.injEq] at h
      subst h
      refine Or.inl ⟨by rfl, fun w' hSw => ?_⟩
      obtain ⟨x0, x1, x2⟩ := hSw
      go_simp
    try simp only [Act.put, List.setIfInBounds_toArray, List.set_cons_zero, List.set_cons_succ]
    refine takeD (i := 2) (d := some 15) (v := .agg #[.slice a1 p.caps.length c1, .slice a2 p.codes.length c2, .slice a3 p.sites.length c3]) (by kernel_rfl) (by kernel_rfl) (by kernel_rfl) (by kernel_rfl) (fun _ _ _ h => h) (fun oi h => ?_) hHeld ?_
    · simp only [List.getElem?_toArray, List.getElem?_cons_succ, List.getElem?_cons_zero, Option.some.injEq] at h
      subst h
      refine Or.inl ⟨by rfl, fun w' hSw => ?_⟩
      obtain ⟨x0, x1, x2⟩ := hSw
      go_simp
    try simp only [Act.put, List.setIfInBounds_toArray, List.set_cons_zero, List.set_cons_succ]
    refine wpAnyH_cut (fun a0 a wx => ∃ (y14 : Value) (y16 : Value) (A : Nat) (B : Nat), a = ((((a0.put (some 14) y14).put (some 16) y16).put (some 3) (.pointer (some ⟨A, 0, none⟩))).put (some 4) (.pointer (some ⟨B, 0, none⟩))) ∧ C2 wd p wx y14 y16 ∧ FA wd wx A ∧ FA wd wx B ∧ A ≠ B) (f' := 2) (l' := #[true, true, true, true, true, true, false, false]) ?_ (fun r211 => ?_)
    · rintro a wx ⟨y14, y16, A, B, rfl, hc, hA, hBb, hne⟩
      have hHeld := hS wx (hc.below)
      simp only [Act.put, List.setIfInBounds_toArray, List.set_cons_zero, List.set_cons_succ]
      have lw : w.heap.size < wd.heap.size := hKd.lt
      have hAl := hA.1
      have hBl := hBb.1
      obtain ⟨x1, x2, x3, wA, y1, y2, y3, wB, rfl, rfl, m1, oA, m2, oB, m3⟩ := hc
      obtain ⟨xa, xc, rfl⟩ := owns_slice oA.caps
      obtain ⟨xb, xd, rfl⟩ := oA.codes.slice
      obtain ⟨xe, xf, rfl⟩ := oA.sites.slice
      obtain ⟨ya, yc, rfl⟩ := owns_slice oB.caps
      obtain ⟨yb, yd, rfl⟩ := oB.codes.slice
      obtain ⟨ye, yf, rfl⟩ := oB.sites.slice
      have s0 : wx.cell? ⟨A, 0, none⟩ = some (.slice none 0 0) := hA.2.cell rfl
      have s1 : wx.cell? ⟨A, 1, none⟩ = some (.slice none 0 0) := hA.2.cell rfl
      have s2 : wx.cell? ⟨A, 2, none⟩ = some (.slice none 0 0) := hA.2.cell rfl
      have f0 := hA.2.frozen 0
      have f1 := hA.2.frozen 1
      have f2 := hA.2.frozen 2
      refine wpAnyH_ready (rs := [6]) (by kernel_rfl) (by simp) ?_
      refine AllReadyH.cons rfl (fun K hKK => ?_) AllReadyH.nil
      go_simp
      have kA := ((hA.2.set 0 (.slice xa p.caps.length xc)).set 1 (.slice xb p.codes.length xd)).set 2 (.slice xe p.sites.length xf)
      have kB : Blk (((wx.setCell ⟨A, 0, none⟩ (.slice xa p.caps.length xc)).setCell ⟨A, 1, none⟩ (.slice xb p.codes.length xd)).setCell ⟨A, 2, none⟩ (.slice xe p.sites.length xf)) B 26 #[.slice none 0 0, .slice none 0 0, .slice none 0 0] := ((hBb.2.beside (p := ⟨A, 0, none⟩) (Ne.symm hne) _).beside (p := ⟨A, 1, none⟩) (Ne.symm hne) _).beside (p := ⟨A, 2, none⟩) (Ne.symm hne) _
      have hbt : But [A] wx (((wx.setCell ⟨A, 0, none⟩ (.slice xa p.caps.length xc)).setCell ⟨A, 1, none⟩ (.slice xb p.codes.length xd)).setCell ⟨A, 2, none⟩ (.slice xe p.sites.length xf)) := (((But.refl _ wx).set (p := ⟨A, 0, none⟩) (.inl (by simp)) _).set (p := ⟨A, 1, none⟩) (.inl (by simp)) _).set (p := ⟨A, 2, none⟩) (.inl (by simp)) _
      generalize ((wx.setCell ⟨A, 0, none⟩ (.slice xa p.caps.length xc)).setCell ⟨A, 1, none⟩ (.slice xb p.codes.length xd)).setCell ⟨A, 2, none⟩ (.slice xe p.sites.length xf) = wy at kA kB hbt ⊢
      have dx : Below wd.heap.size wd wx := below_next (below_next m1 m2 (Nat.le_refl _)) m3 (Nat.le_refl _)
      have dy : Below wd.heap.size wd wy := dx.trans (hbt.below dx.size (by simp; exact hAl))
      refine hKK.out _ _ (hS _ dy) (fun hHeld => ?_)
      clear hKK K
      try simp only [Act.put, List.setIfInBounds_toArray, List.set_cons_zero, List.set_cons_succ]
      have t0 : wy.cell? ⟨B, 0, none⟩ = some (.slice none 0 0) := kB.cell rfl
      have t1 : wy.cell? ⟨B, 1, none⟩ = some (.slice none 0 0) := kB.cell rfl
      have t2 : wy.cell? ⟨B, 2, none⟩ = some (.slice none 0 0) := kB.cell rfl
      have g0 := kB.frozen 0
      have g1 := kB.frozen 1
      have g2 := kB.frozen 2
      refine wpAnyH_ready (rs := [7]) (by kernel_rfl) (by simp) ?_
      refine AllReadyH.cons rfl (fun K hKK => ?_) AllReadyH.nil
      go_simp
      have lB := ((kB.set 0 (.slice ya p.caps.length yc)).set 1 (.slice yb p.codes.length yd)).set 2 (.slice ye p.sites.length yf)
      have lA := ((kA.beside (p := ⟨B, 0, none⟩) hne (.slice ya p.caps.length yc)).beside (p := ⟨B, 1, none⟩) hne (.slice yb p.codes.length yd)).beside (p := ⟨B, 2, none⟩) hne (.slice ye p.sites.length yf)
      have hbu : But [B] wy (((wy.setCell ⟨B, 0, none⟩ (.slice ya p.caps.length yc)).setCell ⟨B, 1, none⟩ (.slice yb p.codes.length yd)).setCell ⟨B, 2, none⟩ (.slice ye p.sites.length yf)) := (((But.refl _ wy).set (p := ⟨B, 0, none⟩) (.inl (by simp)) _).set (p := ⟨B, 1, none⟩) (.inl (by simp)) _).set (p := ⟨B, 2, none⟩) (.inl (by simp)) _
      generalize ((wy.setCell ⟨B, 0, none⟩ (.slice ya p.caps.length yc)).setCell ⟨B, 1, none⟩ (.slice yb p.codes.length yd)).setCell ⟨B, 2, none⟩ (.slice ye p.sites.length yf) = wz at lA lB hbu ⊢
      have dz : Below wd.heap.size wd wz := dy.trans (hbu.below dy.size (by simp; exact hBl))
      refine hKK.out _ _ (hS _ dz) (fun hHeld => ?_)
      clear hKK K
      refine wpAnyH_done (by kernel_rfl) ?_ _
      simp only [PanOnly, Act.put, List.setIfInBounds_toArray, List.set_cons_zero, List.set_cons_succ]
      have hbz : But [A, B] wx wz := (hbt.mono (T := [A, B]) (by simp)).next (hbu.mono (by simp))
      clear s0 s1 s2 f0 f1 f2 t0 t1 t2 g0 g1 g2 hbt hbu kA kB
      have hAx := hA.2
      have hBx := hBb.2
      have keepT : ∀ (j : Nat) (cs : Array Value) (t : TypeId) (z : Nat × Nat), t ≠ 26 → wx.heap[j]? = some (.cells cs t z) → wz.heap[j]? = wx.heap[j]? := fun j cs t z ht hj => hbz.block j (Array.getElem?_eq_some_iff.1 hj).1 (by
        intro hm
        simp only [List.mem_cons, List.not_mem_nil, or_false] at hm
        rcases hm with rfl | rfl
        · rw [show wx.heap[j]? = _ from hAx] at hj
          simp only [Option.some.injEq, Obj.cells.injEq] at hj
          exact ht hj.2.1.symm
        · rw [show wx.heap[j]? = _ from hBx] at hj
          simp only [Option.some.injEq, Obj.cells.injEq] at hj
          exact ht hj.2.1.symm)
      have eA := ((oA.fresh m2).fresh m3).kept keepT
      have eB := (oB.fresh m3).kept keepT
      have pp := hP wz dz
      have pA := eA.at pp.fit
      have pB := eB.at pp.fit
      have rA := rsame_any wz pA pp hs
      rw [samePrg_refl] at rA
      have hKz := hKd.on dz
      have wpz := (((oA.wp hs).kept (fun j _ _ _ hj _ _ => m2.block j hj)).kept (fun j _ _ _ hj _ _ => m3.block j (Nat.lt_of_lt_of_le hj m2.size))).kept (fun j cs t z _ ht hh => keepT j cs t z ht hh)
      clear hAx hBx keepT hbz m1 oA oB
      have s0 : wz.cell? ⟨A, 0, none⟩ = some (.slice xa p.caps.length xc) := lA.cell rfl
      have s1 : wz.cell? ⟨A, 1, none⟩ = some (.slice xb p.codes.length xd) := lA.cell rfl
      have s2 : wz.cell? ⟨A, 2, none⟩ = some (.slice xe p.sites.length xf) := lA.cell rfl
      have t0 : wz.cell? ⟨w.heap.size, 0, none⟩ = some (.slice a1 p.caps.length c1) := hKz.cell rfl
      have t1 : wz.cell? ⟨w.heap.size, 1, none⟩ = some (.slice a2 p.codes.length c2) := hKz.cell rfl
      have t2 : wz.cell? ⟨w.heap.size, 2, none⟩ = some (.slice a3 p.sites.length c3) := hKz.cell rfl
      go_wp2_with fail
      refine rA.mono ?_
      rintro e wq ⟨rfl, hq⟩
      have rB := rsame_any wq (pB.later hq) (pp.later hq) hs
      rw [samePrg_refl] at rB
      have lAq := lA.on hq
      have lBq := lB.on hq
      have hKq := hKz.on hq
      have dq := below_next dz hq (Nat.le_refl _)
      clear s0 s1 s2 t0 t1 t2 rA lA lB hKz
      have s0 : wq.cell? ⟨B, 0, none⟩ = some (.slice ya p.caps.length yc) := lBq.cell rfl
      have s1 : wq.cell? ⟨B, 1, none⟩ = some (.slice yb p.codes.length yd) := lBq.cell rfl
      have s2 : wq.cell? ⟨B, 2, none⟩ = some (.slice ye p.sites.length yf) := lBq.cell rfl
      have t0 : wq.cell? ⟨w.heap.size, 0, none⟩ = some (.slice a1 p.caps.length c1) := hKq.cell rfl
      have t1 : wq.cell? ⟨w.heap.size, 1, none⟩ = some (.slice a2 p.codes.length c2) := hKq.cell rfl
      have t2 : wq.cell? ⟨w.heap.size, 2, none⟩ = some (.slice a3 p.sites.length c3) := hKq.cell rfl
      go_wp2_with fail
      refine rB.mono ?_
      rintro e wu ⟨rfl, hu⟩
      have lAu := lAq.on hu
      have lBu := lBq.on hu
      have hKu := hKq.on hu
      have du := below_next dq hu (Nat.le_refl _)
      have hqu := below_next hq hu (Nat.le_refl _)
      have eAu := eA.fresh hqu
      have eBu := eB.fresh hqu
      have wpu := wpz.kept (fun j cs t z hj ht hh => hqu.block j (Array.getElem?_eq_some_iff.1 hh).1)
      clear s0 s1 s2 t0 t1 t2 rB lAq lBq hKq hq hu pA pB pp eA eB wpz hqu
      go_wp2_with fail
      go_loopw [5] (fun iv wr => ∃ k : Nat, k ≤ p.caps.length ∧ iv = .int .i64 (k : Int) ∧ Fr wd.heap.size wA.heap.size wu wr ∧ Wp wd.heap.size wA.heap.size wr (.slice xa p.caps.length xc) (.slice xb p.codes.length xd) (.slice xe p.sites.length xf) p.caps.length p.codes.length p.sites.length) (fun iv _ => p.caps.length - (intOf iv).toNat)
      case atStart => exact ⟨0, Nat.zero_le _, rfl, Fr.refl _ _ _, wpu⟩
      case round =>
        clear wpu
        obtain ⟨k, hk, rfl, hF, hQ⟩ := hrel
        have s0 : wr.cell? ⟨A, 0, none⟩ = some (.slice xa p.caps.length xc) := (hF.blk lAu).cell rfl
        by_cases hlt : k < p.caps.length
        · have hlt' : (k : Int) < (p.caps.length : Int) := by omega
          have k0 : (0 : Int) ≤ (k : Int) := by omega
          obtain ⟨-, hcl, g, cur, rfl, hg1, hg2, hg, hsz⟩ := hQ.caps.at hlt
          have hw1 : IntKind.i64.wrap ((k : Int) + 1) = (k : Int) + 1 := by rw [IntKind.wrap_i64]; omega
          obtain ⟨x, hx⟩ := blk_cell hg (j := k) (by omega)
          have hz := Blk.frozen hg k
          have HG := Lib.hid hg
          clear hg
          go_wp2_with fail
          go_round
          case rel => exact ⟨k + 1, by omega, by go_num, hF.trans (Fr.set HG.out hg1 hg2 (by decide) _ _), hQ.set HG.out hg1 hg2 (by decide) (by decide) (by decide) _ _⟩
          case measure => simp [intOf]; omega
        · have hlt' : ¬ (k : Int) < (p.caps.length : Int) := by omega
          go_wp2_with fail
          clear s0 hlt hlt' hk
          go_loopw [6] (fun iv wr => ∃ k : Nat, k ≤ p.codes.length ∧ iv = .int .i64 (k : Int) ∧ Fr wd.heap.size wA.heap.size wu wr ∧ Wp wd.heap.size wA.heap.size wr (.slice xa p.caps.length xc) (.slice xb p.codes.length xd) (.slice xe p.sites.length xf) p.caps.length p.codes.length p.sites.length) (fun iv _ => p.codes.length - (intOf iv).toNat)
          case atStart => exact ⟨0, Nat.zero_le _, rfl, hF, hQ⟩
          case round =>
            clear hF hQ
            obtain ⟨k, hk, rfl, hF, hQ⟩ := hrel
            have s0 : wr.cell? ⟨A, 1, none⟩ = some (.slice xb p.codes.length xd) := (hF.blk lAu).cell rfl
            by_cases hlt : k < p.codes.length
            · have hlt' : (k : Int) < (p.codes.length : Int) := by omega
              have k0 : (0 : Int) ≤ (k : Int) := by omega
              have hcl := hs.codes
              have hw1 : IntKind.i64.wrap ((k : Int) + 1) = (k : Int) + 1 := by rw [IntKind.wrap_i64]; omega
              obtain ⟨g, cur, ra, r, rc, rfl, hg1, hg2, hg, hcur, hrow⟩ := hQ.codes.at hlt
              go_wp2_with fail
              clear s0
              go_loopw [7] (fun jv wr => ∃ j : Nat, j ≤ r ∧ jv = .int .i64 (j : Int) ∧ (Fr wd.heap.size wA.heap.size wu wr ∧ Wp wd.heap.size wA.heap.size wr (.slice xa p.caps.length xc) (.slice (some ⟨g, 0, none⟩) p.codes.length xd) (.slice xe p.sites.length xf) p.caps.length p.codes.length p.sites.length) ∧ wr.heap[g]? = some (.cells cur 32 (0, 0)) ∧ Wrt wd.heap.size wA.heap.size wr 34 5 (.slice ra r rc) r) (fun jv _ => r - (intOf jv).toNat)
              case atStart => exact ⟨0, Nat.zero_le _, rfl, ⟨hF, hQ⟩, hg, hrow⟩
              case round =>
                clear hg hrow hF hQ
                obtain ⟨j, hj, rfl, ⟨hF, hQ⟩, hg, hrow⟩ := hrel
                have s0 : wr.cell? ⟨A, 1, none⟩ = some (.slice (some ⟨g, 0, none⟩) p.codes.length xd) := (hF.blk lAu).cell rfl
                have hck : wr.cell? ⟨g, k, none⟩ = some (.slice ra r rc) := Blk.cell hg hcur
                by_cases hjt : j < r
                · have hjt' : (j : Int) < (r : Int) := by omega
                  have j0 : (0 : Int) ≤ (j : Int) := by omega
                  obtain ⟨-, hrl, G, cu, rfl, hG1, hG2, hG, hGs⟩ := hrow.at hjt
                  have hw2 : IntKind.i64.wrap ((j : Int) + 1) = (j : Int) + 1 := by rw [IntKind.wrap_i64]; omega
                  obtain ⟨c0, hc0⟩ := blk_cell hG (j := j * 5) (by omega)
                  obtain ⟨c1, hc1⟩ := blk_cell hG (j := j * 5 + 1) (by omega)
                  obtain ⟨c2, hc2⟩ := blk_cell hG (j := j * 5 + 2) (by omega)
                  obtain ⟨c3, hc3⟩ := blk_cell hG (j := j * 5 + 3) (by omega)
                  obtain ⟨c4, hc4⟩ := blk_cell hG (j := j * 5 + 4) (by omega)
                  have z0 := Blk.frozen hG (j * 5)
                  have z1 := Blk.frozen hG (j * 5 + 1)
                  have z2 := Blk.frozen hG (j * 5 + 2)
                  have z3 := Blk.frozen hG (j * 5 + 3)
                  have z4 := Blk.frozen hG (j * 5 + 4)
                  have HG := Lib.hid hG
                  have Hg := Lib.hid hg
                  clear hG hg
                  go_wp2_with fail
                  go_round
                  case rel =>
                    obtain ⟨q1, q2, q3⟩ := hQ.set5 HG.out hG1 hG2 (j * 5) (.int .u8 77) (.int .i64 0) (.int .i64 0) (.int .i64 0) (.int .i64 0) rfl
                    exact ⟨j + 1, by omega, by go_num, ⟨hF.trans q2, q1⟩, (q3 _ _ Hg.out).trans Hg.out, hrow.fr q2⟩
                  case measure => simp [intOf]; omega
                · have hjt' : ¬ (j : Int) < (r : Int) := by omega
                  have hz := Blk.frozen hg k
                  have Hg := Lib.hid hg
                  clear hg
                  go_wp2_with fail
                  go_round
                  case rel => exact ⟨k + 1, by omega, by go_num, hF.trans (Fr.set Hg.out hg1 hg2 (by decide) _ _), hQ.gone rfl Hg.out hg1 hg2 k⟩
                  case measure => simp [intOf]; omega
            · have hlt' : ¬ (k : Int) < (p.codes.length : Int) := by omega
              go_wp2_with fail
              clear s0 hlt hlt' hk
              go_loopw [8] (fun iv wr => ∃ k : Nat, k ≤ p.sites.length ∧ iv = .int .i64 (k : Int) ∧ Fr wd.heap.size wA.heap.size wu wr ∧ Wp wd.heap.size wA.heap.size wr (.slice xa p.caps.length xc) (.slice xb p.codes.length xd) (.slice xe p.sites.length xf) p.caps.length p.codes.length p.sites.length) (fun iv _ => p.sites.length - (intOf iv).toNat)
              case atStart => exact ⟨0, Nat.zero_le _, rfl, hF, hQ⟩
              case round =>
                clear hF hQ
                obtain ⟨k, hk, rfl, hF, hQ⟩ := hrel
                have s0 : wr.cell? ⟨A, 2, none⟩ = some (.slice xe p.sites.length xf) := (hF.blk lAu).cell rfl
                by_cases hlt : k < p.sites.length
                · have hlt' : (k : Int) < (p.sites.length : Int) := by omega
                  have k0 : (0 : Int) ≤ (k : Int) := by omega
                  have hcl := hs.sites
                  have hw1 : IntKind.i64.wrap ((k : Int) + 1) = (k : Int) + 1 := by rw [IntKind.wrap_i64]; omega
                  obtain ⟨g, cur, ra, r, rc, rfl, hg1, hg2, hg, hcur, hrow⟩ := hQ.sites.at hlt
                  go_wp2_with fail
                  clear s0
                  go_loopw [9] (fun jv wr => ∃ j : Nat, j ≤ r ∧ jv = .int .i64 (j : Int) ∧ (Fr wd.heap.size wA.heap.size wu wr ∧ Wp wd.heap.size wA.heap.size wr (.slice xa p.caps.length xc) (.slice xb p.codes.length xd) (.slice (some ⟨g, 0, none⟩) p.sites.length xf) p.caps.length p.codes.length p.sites.length) ∧ wr.heap[g]? = some (.cells cur 44 (0, 0)) ∧ Wrt wd.heap.size wA.heap.size wr 41 4 (.slice ra r rc) r) (fun jv _ => r - (intOf jv).toNat)
                  case atStart => exact ⟨0, Nat.zero_le _, rfl, ⟨hF, hQ⟩, hg, hrow⟩
                  case round =>
                    clear hg hrow hF hQ
                    obtain ⟨j, hj, rfl, ⟨hF, hQ⟩, hg, hrow⟩ := hrel
                    have s0 : wr.cell? ⟨A, 2, none⟩ = some (.slice (some ⟨g, 0, none⟩) p.sites.length xf) := (hF.blk lAu).cell rfl
                    have hck : wr.cell? ⟨g, k * 2, none⟩ = some (.slice ra r rc) := Blk.cell hg hcur
                    by_cases hjt : j < r
                    · have hjt' : (j : Int) < (r : Int) := by omega
                      have j0 : (0 : Int) ≤ (j : Int) := by omega
                      obtain ⟨-, hrl, G, cu, rfl, hG1, hG2, hG, hGs⟩ := hrow.at hjt
                      have hw2 : IntKind.i64.wrap ((j : Int) + 1) = (j : Int) + 1 := by rw [IntKind.wrap_i64]; omega
                      obtain ⟨c0, hc0⟩ := blk_cell hG (j := j * 4) (by omega)
                      obtain ⟨c1, hc1⟩ := blk_cell hG (j := j * 4 + 1) (by omega)
                      obtain ⟨c2, hc2⟩ := blk_cell hG (j := j * 4 + 2) (by omega)
                      obtain ⟨c3, hc3⟩ := blk_cell hG (j := j * 4 + 3) (by omega)
                      have z0 := Blk.frozen hG (j * 4)
                      have z1 := Blk.frozen hG (j * 4 + 1)
                      have z2 := Blk.frozen hG (j * 4 + 2)
                      have z3 := Blk.frozen hG (j * 4 + 3)
                      have HG := Lib.hid hG
                      have Hg := Lib.hid hg
                      clear hG hg
                      go_wp2_with fail
                      go_round
                      case rel =>
                        obtain ⟨q1, q2, q3⟩ := hQ.set4 HG.out hG1 hG2 (j * 4) (.bool false) (.int .i64 55) (.int .i64 0) (.int .i64 0) rfl
                        exact ⟨j + 1, by omega, by go_num, ⟨hF.trans q2, q1⟩, (q3 _ _ Hg.out).trans Hg.out, hrow.fr q2⟩
                      case measure => simp [intOf]; omega
                    · have hjt' : ¬ (j : Int) < (r : Int) := by omega
                      go_wp2_with fail
                      go_round
                      case rel => exact ⟨k + 1, by omega, by go_num, hF, hQ⟩
                      case measure => simp [intOf]; omega
                · have hlt' : ¬ (k : Int) < (p.sites.length : Int) := by omega
                  have dF := hF.below
                  have df := du.trans dF
                  have hBf := below_next hBd df (Nat.le_refl _)
                  have pp := hP wr df
                  have rB := rsame_any wr ((eBu.fr hF).at pp.fit) pp hs
                  rw [samePrg_refl] at rB
                  have lBf := hF.blk lBu
                  have hKf := hKu.later dF lw
                  have q0 : wr.cell? ⟨B, 0, none⟩ = some (.slice ya p.caps.length yc) := lBf.cell rfl
                  have q1 : wr.cell? ⟨B, 1, none⟩ = some (.slice yb p.codes.length yd) := lBf.cell rfl
                  have q2 : wr.cell? ⟨B, 2, none⟩ = some (.slice ye p.sites.length yf) := lBf.cell rfl
                  have t0 : wr.cell? ⟨w.heap.size, 0, none⟩ = some (.slice a1 p.caps.length c1) := hKf.cell rfl
                  have t1 : wr.cell? ⟨w.heap.size, 1, none⟩ = some (.slice a2 p.codes.length c2) := hKf.cell rfl
                  have t2 : wr.cell? ⟨w.heap.size, 2, none⟩ = some (.slice a3 p.sites.length c3) := hKf.cell rfl
                  go_wp2_with fail
                  refine rB.mono ?_
                  rintro e wf ⟨rfl, hf⟩
                  clear s0 q0 q1 q2 t0 t1 t2 rB lBf hKf
                  go_wp2_with fail
                  refine (alive_any _).mono ?_
                  rintro e wg ⟨rfl, hg⟩
                  go_wp2_with fail
                  go_ret
                  exact ⟨rfl, below_next (below_next hBf hf (Nat.le_refl _)) hg (Nat.le_refl _)⟩
    refine wpAnyH_cut (fun a0 a wx => ∃ (y14 : Value) (y16 : Value) (A : Nat), a = (((a0.put (some 14) y14).put (some 16) y16).put (some 3) (.pointer (some ⟨A, 0, none⟩))) ∧ C2 wd p wx y14 y16 ∧ FA wd wx A) (f' := 3) (l' := #[true, true, true, true, true, false, false, false]) ?_ (fun r210 => ?_)
    · rintro a wx ⟨y14, y16, A, rfl, hc, hA⟩
      have hHeld := hS wx (hc.below)
      simp only [Act.put, List.setIfInBounds_toArray, List.set_cons_zero, List.set_cons_succ]
      refine wpAnyH_ready (rs := [5]) (by kernel_rfl) (by simp) ?_
      refine AllReadyH.cons rfl (fun K hKK => ?_) AllReadyH.nil
      · go_simp
        refine hKK.out _ _ (hS _ (Below.alloc (hc.below) (hc.below).size _)) (fun hHeld => ?_)
        clear hKK K
        try simp only [Act.put, List.setIfInBounds_toArray, List.set_cons_zero, List.set_cons_succ]
        refine r211 _ _ ⟨_, _, A, wx.heap.size, ?_, hc.on (grown_new wx _), hA.on (grown_new wx _), fa_new (hc.below), Nat.ne_of_lt hA.lt⟩
        simp only [Act.put, List.setIfInBounds_toArray, List.set_cons_zero, List.set_cons_succ]
    refine wpAnyH_cut (fun a0 a wx => ∃ (y14 : Value) (y16 : Value) (B : Nat), a = (((a0.put (some 14) y14).put (some 16) y16).put (some 4) (.pointer (some ⟨B, 0, none⟩))) ∧ C2 wd p wx y14 y16 ∧ FA wd wx B) (f' := 3) (l' := #[true, true, true, true, false, true, false, false]) ?_ (fun r201 => ?_)
    · rintro a wx ⟨y14, y16, B, rfl, hc, hBb⟩
      have hHeld := hS wx (hc.below)
      simp only [Act.put, List.setIfInBounds_toArray, List.set_cons_zero, List.set_cons_succ]
      refine wpAnyH_ready (rs := [4]) (by kernel_rfl) (by simp) ?_
      refine AllReadyH.cons rfl (fun K hKK => ?_) AllReadyH.nil
      · go_simp
        refine hKK.out _ _ (hS _ (Below.alloc (hc.below) (hc.below).size _)) (fun hHeld => ?_)
        clear hKK K
        try simp only [Act.put, List.setIfInBounds_toArray, List.set_cons_zero, List.set_cons_succ]
        refine r211 _ _ ⟨_, _, wx.heap.size, B, ?_, hc.on (grown_new wx _), fa_new (hc.below), hBb.on (grown_new wx _), Ne.symm (Nat.ne_of_lt hBb.lt)⟩
        simp only [Act.put, List.setIfInBounds_toArray, List.set_cons_zero, List.set_cons_succ]
    refine wpAnyH_cut (fun a0 a wx => ∃ (y14 : Value) (A : Nat) (B : Nat), a = (((a0.put (some 14) y14).put (some 3) (.pointer (some ⟨A, 0, none⟩))).put (some 4) (.pointer (some ⟨B, 0, none⟩))) ∧ C1 wd p wx y14 ∧ FA wd wx A ∧ FA wd wx B ∧ A ≠ B) (f' := 3) (l' := #[true, true, true, false, true, true, false, false]) ?_ (fun r111 => ?_)
    · rintro a wx ⟨y14, A, B, rfl, hc, hA, hBb, hne⟩
      have hHeld := hS wx (hc.below)
      simp only [Act.put, List.setIfInBounds_toArray, List.set_cons_zero, List.set_cons_succ]
      refine wpAnyH_ready (rs := [3]) (by kernel_rfl) (by simp) ?_
      refine AllReadyH.cons rfl (fun K hKK => ?_) AllReadyH.nil
      · go_simp
        refine (copy_any wx (hP wx hc.below) hs).mono ?_
        rintro e wy ⟨u1, u2, u3, rfl, ho, hb⟩
        refine hKK.out _ _ (hS _ ((hc.two ho hb).below)) (fun hHeld => ?_)
        clear hKK K
        try simp only [Act.put, List.setIfInBounds_toArray, List.set_cons_zero, List.set_cons_succ]
        refine r211 _ _ ⟨_, _, A, B, ?_, hc.two ho hb, hA.on hb, hBb.on hb, hne⟩
        simp only [Act.put, List.setIfInBounds_toArray, List.set_cons_zero, List.set_cons_succ]
    refine wpAnyH_cut (fun a0 a wx => ∃ (y14 : Value) (y16 : Value), a = ((a0.put (some 14) y14).put (some 16) y16) ∧ C2 wd p wx y14 y16) (f' := 4) (l' := #[true, true, true, true, false, false, false, false]) ?_ (fun r200 => ?_)
    · rintro a wx ⟨y14, y16, rfl, hc⟩
      have hHeld := hS wx (hc.below)
      simp only [Act.put, List.setIfInBounds_toArray, List.set_cons_zero, List.set_cons_succ]
      refine wpAnyH_ready (rs := [4, 5]) (by kernel_rfl) (by simp) ?_
      refine AllReadyH.cons rfl (fun K hKK => ?_) (AllReadyH.cons rfl (fun K hKK => ?_) AllReadyH.nil)
      · go_simp
        refine hKK.out _ _ (hS _ (Below.alloc (hc.below) (hc.below).size _)) (fun hHeld => ?_)
        clear hKK K
        try simp only [Act.put, List.setIfInBounds_toArray, List.set_cons_zero, List.set_cons_succ]
        refine r210 _ _ ⟨_, _, wx.heap.size, ?_, hc.on (grown_new wx _), fa_new (hc.below)⟩
        simp only [Act.put, List.setIfInBounds_toArray, List.set_cons_zero, List.set_cons_succ]
      · go_simp
        refine hKK.out _ _ (hS _ (Below.alloc (hc.below) (hc.below).size _)) (fun hHeld => ?_)
        clear hKK K
        try simp only [Act.put, List.setIfInBounds_toArray, List.set_cons_zero, List.set_cons_succ]
        refine r201 _ _ ⟨_, _, wx.heap.size, ?_, hc.on (grown_new wx _), fa_new (hc.below)⟩
        simp only [Act.put, List.setIfInBounds_toArray, List.set_cons_zero, List.set_cons_succ]
    refine wpAnyH_cut (fun a0 a wx => ∃ (y14 : Value) (A : Nat), a = ((a0.put (some 14) y14).put (some 3) (.pointer (some ⟨A, 0, none⟩))) ∧ C1 wd p wx y14 ∧ FA wd wx A) (f' := 4) (l' := #[true, true, true, false, true, false, false, false]) ?_ (fun r110 => ?_)
    · rintro a wx ⟨y14, A, rfl, hc, hA⟩
      have hHeld := hS wx (hc.below)
      simp only [Act.put, List.setIfInBounds_toArray, List.set_cons_zero, List.set_cons_succ]
      refine wpAnyH_ready (rs := [3, 5]) (by kernel_rfl) (by simp) ?_
      refine AllReadyH.cons rfl (fun K hKK => ?_) (AllReadyH.cons rfl (fun K hKK => ?_) AllReadyH.nil)
      · go_simp
        refine (copy_any wx (hP wx hc.below) hs).mono ?_
        rintro e wy ⟨u1, u2, u3, rfl, ho, hb⟩
        refine hKK.out _ _ (hS _ ((hc.two ho hb).below)) (fun hHeld => ?_)
        clear hKK K
        try simp only [Act.put, List.setIfInBounds_toArray, List.set_cons_zero, List.set_cons_succ]
        refine r210 _ _ ⟨_, _, A, ?_, hc.two ho hb, hA.on hb⟩
        simp only [Act.put, List.setIfInBounds_toArray, List.set_cons_zero, List.set_cons_succ]
      · go_simp
        refine hKK.out _ _ (hS _ (Below.alloc (hc.below) (hc.below).size _)) (fun hHeld => ?_)
        clear hKK K
        try simp only [Act.put, List.setIfInBounds_toArray, List.set_cons_zero, List.set_cons_succ]
        refine r111 _ _ ⟨_, A, wx.heap.size, ?_, hc.on (grown_new wx _), hA.on (grown_new wx _), fa_new (hc.below), Nat.ne_of_lt hA.lt⟩
        simp only [Act.put, List.setIfInBounds_toArray, List.set_cons_zero, List.set_cons_succ]
    refine wpAnyH_cut (fun a0 a wx => ∃ (y14 : Value) (B : Nat), a = ((a0.put (some 14) y14).put (some 4) (.pointer (some ⟨B, 0, none⟩))) ∧ C1 wd p wx y14 ∧ FA wd wx B) (f' := 4) (l' := #[true, true, true, false, false, true, false, false]) ?_ (fun r101 => ?_)
    · rintro a wx ⟨y14, B, rfl, hc, hBb⟩
      have hHeld := hS wx (hc.below)
      simp only [Act.put, List.setIfInBounds_toArray, List.set_cons_zero, List.set_cons_succ]
      refine wpAnyH_ready (rs := [3, 4]) (by kernel_rfl) (by simp) ?_
      refine AllReadyH.cons rfl (fun K hKK => ?_) (AllReadyH.cons rfl (fun K hKK => ?_) AllReadyH.nil)
      · go_simp
        refine (copy_any wx (hP wx hc.below) hs).mono ?_
        rintro e wy ⟨u1, u2, u3, rfl, ho, hb⟩
        refine hKK.out _ _ (hS _ ((hc.two ho hb).below)) (fun hHeld => ?_)
        clear hKK K
        try simp only [Act.put, List.setIfInBounds_toArray, List.set_cons_zero, List.set_cons_succ]
        refine r201 _ _ ⟨_, _, B, ?_, hc.two ho hb, hBb.on hb⟩
        simp only [Act.put, List.setIfInBounds_toArray, List.set_cons_zero, List.set_cons_succ]
      · go_simp
        refine hKK.out _ _ (hS _ (Below.alloc (hc.below) (hc.below).size _)) (fun hHeld => ?_)
        clear hKK K
        try simp only [Act.put, List.setIfInBounds_toArray, List.set_cons_zero, List.set_cons_succ]
        refine r111 _ _ ⟨_, wx.heap.size, B, ?_, hc.on (grown_new wx _), fa_new (hc.below), hBb.on (grown_new wx _), Ne.symm (Nat.ne_of_lt hBb.lt)⟩
        simp only [Act.put, List.setIfInBounds_toArray, List.set_cons_zero, List.set_cons_succ]
    refine wpAnyH_cut (fun a0 a wx => ∃ (A : Nat) (B : Nat), a = ((a0.put (some 3) (.pointer (some ⟨A, 0, none⟩))).put (some 4) (.pointer (some ⟨B, 0, none⟩))) ∧ Below wd.heap.size wd wx ∧ FA wd wx A ∧ FA wd wx B ∧ A ≠ B) (f' := 4) (l' := #[true, false, true, false, true, true, false, false]) ?_ (fun r011 => ?_)
    · rintro a wx ⟨A, B, rfl, hc, hA, hBb, hne⟩
      have hHeld := hS wx hc
      simp only [Act.put, List.setIfInBounds_toArray, List.set_cons_zero, List.set_cons_succ]
      refine wpAnyH_ready (rs := [1]) (by kernel_rfl) (by simp) ?_
      refine AllReadyH.cons rfl (fun K hKK => ?_) AllReadyH.nil
      · go_simp
        refine (copy_any wx (hP wx hc) hs).mono ?_
        rintro e wy ⟨u1, u2, u3, rfl, ho, hb⟩
        refine hKK.out _ _ (hS _ ((c_one hc ho hb).below)) (fun hHeld => ?_)
        clear hKK K
        try simp only [Act.put, List.setIfInBounds_toArray, List.set_cons_zero, List.set_cons_succ]
        refine r111 _ _ ⟨_, A, B, ?_, c_one hc ho hb, hA.on hb, hBb.on hb, hne⟩
        simp only [Act.put, List.setIfInBounds_toArray, List.set_cons_zero, List.set_cons_succ]
    refine wpAnyH_cut (fun a0 a wx => ∃ (y14 : Value), a = (a0.put (some 14) y14) ∧ C1 wd p wx y14) (f' := 5) (l' := #[true, true, true, false, false, false, false, false]) ?_ (fun r100 => ?_)
    · rintro a wx ⟨y14, rfl, hc⟩
      have hHeld := hS wx (hc.below)
      simp only [Act.put, List.setIfInBounds_toArray, List.set_cons_zero, List.set_cons_succ]
      refine wpAnyH_ready (rs := [3, 4, 5]) (by kernel_rfl) (by simp) ?_
      refine AllReadyH.cons rfl (fun K hKK => ?_) (AllReadyH.cons rfl (fun K hKK => ?_) (AllReadyH.cons rfl (fun K hKK => ?_) AllReadyH.nil))
      · go_simp
        refine (copy_any wx (hP wx hc.below) hs).mono ?_
        rintro e wy ⟨u1, u2, u3, rfl, ho, hb⟩
        refine hKK.out _ _ (hS _ ((hc.two ho hb).below)) (fun hHeld => ?_)
        clear hKK K
        try simp only [Act.put, List.setIfInBounds_toArray, List.set_cons_zero, List.set_cons_succ]
        refine r200 _ _ ⟨_, _, ?_, hc.two ho hb⟩
        simp only [Act.put, List.setIfInBounds_toArray, List.set_cons_zero, List.set_cons_succ]
      · go_simp
        refine hKK.out _ _ (hS _ (Below.alloc (hc.below) (hc.below).size _)) (fun hHeld => ?_)
        clear hKK K
        try simp only [Act.put, List.setIfInBounds_toArray, List.set_cons_zero, List.set_cons_succ]
        refine r110 _ _ ⟨_, wx.heap.size, ?_, hc.on (grown_new wx _), fa_new (hc.below)⟩
        simp only [Act.put, List.setIfInBounds_toArray, List.set_cons_zero, List.set_cons_succ]
      · go_simp
        refine hKK.out _ _ (hS _ (Below.alloc (hc.below) (hc.below).size _)) (fun hHeld => ?_)
        clear hKK K
        try simp only [Act.put, List.setIfInBounds_toArray, List.set_cons_zero, List.set_cons_succ]
        refine r101 _ _ ⟨_, wx.heap.size, ?_, hc.on (grown_new wx _), fa_new (hc.below)⟩
        simp only [Act.put, List.setIfInBounds_toArray, List.set_cons_zero, List.set_cons_succ]
    refine wpAnyH_cut (fun a0 a wx => ∃ (A : Nat), a = (a0.put (some 3) (.pointer (some ⟨A, 0, none⟩))) ∧ Below wd.heap.size wd wx ∧ FA wd wx A) (f' := 5) (l' := #[true, false, true, false, true, false, false, false]) ?_ (fun r010 => ?_)
    · rintro a wx ⟨A, rfl, hc, hA⟩
      have hHeld := hS wx hc
      simp only [Act.put, List.setIfInBounds_toArray, List.set_cons_zero, List.set_cons_succ]
      refine wpAnyH_ready (rs := [1, 5]) (by kernel_rfl) (by simp) ?_
      refine AllReadyH.cons rfl (fun K hKK => ?_) (AllReadyH.cons rfl (fun K hKK => ?_) AllReadyH.nil)
      · go_simp
        refine (copy_any wx (hP wx hc) hs).mono ?_
        rintro e wy ⟨u1, u2, u3, rfl, ho, hb⟩
        refine hKK.out _ _ (hS _ ((c_one hc ho hb).below)) (fun hHeld => ?_)
        clear hKK K
        try simp only [Act.put, List.setIfInBounds_toArray, List.set_cons_zero, List.set_cons_succ]
        refine r110 _ _ ⟨_, A, ?_, c_one hc ho hb, hA.on hb⟩
        simp only [Act.put, List.setIfInBounds_toArray, List.set_cons_zero, List.set_cons_succ]
      · go_simp
        refine hKK.out _ _ (hS _ (Below.alloc (hc) (hc).size _)) (fun hHeld => ?_)
        clear hKK K
        try simp only [Act.put, List.setIfInBounds_toArray, List.set_cons_zero, List.set_cons_succ]
        refine r011 _ _ ⟨A, wx.heap.size, ?_, Below.alloc hc hc.size _, hA.on (grown_new wx _), fa_new (hc), Nat.ne_of_lt hA.lt⟩
        simp only [Act.put, List.setIfInBounds_toArray, List.set_cons_zero, List.set_cons_succ]
    refine wpAnyH_cut (fun a0 a wx => ∃ (B : Nat), a = (a0.put (some 4) (.pointer (some ⟨B, 0, none⟩))) ∧ Below wd.heap.size wd wx ∧ FA wd wx B) (f' := 5) (l' := #[true, false, true, false, false, true, false, false]) ?_ (fun r001 => ?_)
    · rintro a wx ⟨B, rfl, hc, hBb⟩
      have hHeld := hS wx hc
      simp only [Act.put, List.setIfInBounds_toArray, List.set_cons_zero, List.set_cons_succ]
      refine wpAnyH_ready (rs := [1, 4]) (by kernel_rfl) (by simp) ?_
      refine AllReadyH.cons rfl (fun K hKK => ?_) (AllReadyH.cons rfl (fun K hKK => ?_) AllReadyH.nil)
      · go_simp
        refine (copy_any wx (hP wx hc) hs).mono ?_
        rintro e wy ⟨u1, u2, u3, rfl, ho, hb⟩
        refine hKK.out _ _ (hS _ ((c_one hc ho hb).below)) (fun hHeld => ?_)
        clear hKK K
        try simp only [Act.put, List.setIfInBounds_toArray, List.set_cons_zero, List.set_cons_succ]
        refine r101 _ _ ⟨_, B, ?_, c_one hc ho hb, hBb.on hb⟩
        simp only [Act.put, List.setIfInBounds_toArray, List.set_cons_zero, List.set_cons_succ]
      · go_simp
        refine hKK.out _ _ (hS _ (Below.alloc (hc) (hc).size _)) (fun hHeld => ?_)
        clear hKK K
        try simp only [Act.put, List.setIfInBounds_toArray, List.set_cons_zero, List.set_cons_succ]
        refine r011 _ _ ⟨wx.heap.size, B, ?_, Below.alloc hc hc.size _, fa_new (hc), hBb.on (grown_new wx _), Ne.symm (Nat.ne_of_lt hBb.lt)⟩
        simp only [Act.put, List.setIfInBounds_toArray, List.set_cons_zero, List.set_cons_succ]
    have hc : Below wd.heap.size wd wd := Below.refl _ _
    refine wpAnyH_ready (rs := [1, 4, 5]) (by kernel_rfl) (by simp) ?_
    refine AllReadyH.cons rfl (fun K hKK => ?_) (AllReadyH.cons rfl (fun K hKK => ?_) (AllReadyH.cons rfl (fun K hKK => ?_) AllReadyH.nil))
    · go_simp
      refine (copy_any wd (hP wd hc) hs).mono ?_
      rintro e wy ⟨u1, u2, u3, rfl, ho, hb⟩
      refine hKK.out _ _ (hS _ ((c_one hc ho hb).below)) (fun hHeld => ?_)
      clear hKK K
      try simp only [Act.put, List.setIfInBounds_toArray, List.set_cons_zero, List.set_cons_succ]
      refine r100 _ _ ⟨_, ?_, c_one hc ho hb⟩
      simp only [Act.put, List.setIfInBounds_toArray, List.set_cons_zero, List.set_cons_succ]
    · go_simp
      refine hKK.out _ _ (hS _ (Below.alloc (hc) (hc).size _)) (fun hHeld => ?_)
      clear hKK K
      try simp only [Act.put, List.setIfInBounds_toArray, List.set_cons_zero, List.set_cons_succ]
      refine r010 _ _ ⟨wd.heap.size, ?_, Below.alloc hc hc.size _, fa_new (hc)⟩
      simp only [Act.put, List.setIfInBounds_toArray, List.set_cons_zero, List.set_cons_succ]
    · go_simp
      refine hKK.out _ _ (hS _ (Below.alloc (hc) (hc).size _)) (fun hHeld => ?_)
      clear hKK K
      try simp only [Act.put, List.setIfInBounds_toArray, List.set_cons_zero, List.set_cons_succ]
      refine r001 _ _ ⟨wd.heap.size, ?_, Below.alloc hc hc.size _, fa_new (hc)⟩
      simp only [Act.put, List.setIfInBounds_toArray, List.set_cons_zero, List.set_cons_succ]
end Go.Proofs.Ytbbgeopgigeioaa
