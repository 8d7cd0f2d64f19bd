/-
  The walk of sites.
-/
import Derived.Deep.RegionHeld3
import Derived.StillTailTactics
import Derived.Test.YtamkmmpockmpfaaGChecks
namespace Go.Proofs.Ytamkmmpockmpfaa
open Go.RowKit

theorem keepB {w1 w2 : World} {p : Addr} {v : Value} (hb : Below w1.heap.size w1 w2) (h : w1.cell? p = some v) : w2.cell? p = some v := (hb.cell (World.block_lt_of_cell? w1 _ h)).trans h
theorem keepK {w1 w2 : World} {B : Nat} {t : TypeId} {cs : Array Value} (hb : Below w1.heap.size w1 w2) (h : Blk w1 B t cs) : Blk w2 B t cs := h.later hb h.lt
theorem Blk.drew {W : World} {B : Nat} {t : TypeId} {cs : Array Value} (h : Blk W B t cs) : Blk W.drew B t cs := h
theorem cell_drew {W : World} {p : Addr} {v : Value} (h : W.cell? p = some v) : W.drew.cell? p = some v := h

theorem mem2 (wr : World) (u : Value) (d : Bool) (k : Int) :
    Blk ((wr.alloc (.cells #[u, .bool d] 41)).alloc (.cells #[.int .i64 k, .int .i64 0, .int .i64 111] 82)) (wr.heap.size + 1) 82 #[.int .i64 k, .int .i64 0, .int .i64 111] ∧
    ((wr.alloc (.cells #[u, .bool d] 41)).alloc (.cells #[.int .i64 k, .int .i64 0, .int .i64 111] 82)).cell? ⟨wr.heap.size, 0, none⟩ = some u ∧
    ((wr.alloc (.cells #[u, .bool d] 41)).alloc (.cells #[.int .i64 k, .int .i64 0, .int .i64 111] 82)).cell? ⟨wr.heap.size + 1, 0, none⟩ = some (.int .i64 k) ∧
    ((wr.alloc (.cells #[u, .bool d] 41)).alloc (.cells #[.int .i64 k, .int .i64 0, .int .i64 111] 82)).cell? ⟨wr.heap.size + 1, 1, none⟩ = some (.int .i64 0) ∧
    ((wr.alloc (.cells #[u, .bool d] 41)).alloc (.cells #[.int .i64 k, .int .i64 0, .int .i64 111] 82)).cell? ⟨wr.heap.size + 1, 2, none⟩ = some (.int .i64 111) := by
  have h0 := blk_new wr 41 #[u, .bool d]
  have h1 := blk_new (wr.alloc (.cells #[u, .bool d] 41)) 82 #[.int .i64 k, .int .i64 0, .int .i64 111]
  have h0' := h0.later (n := wr.heap.size + 1) (W' := (wr.alloc (.cells #[u, .bool d] 41)).alloc (.cells #[.int .i64 k, .int .i64 0, .int .i64 111] 82)) ((Below.refl _ _).alloc (by simp) _) (by omega)
  rw [World.size_alloc] at h1
  exact ⟨h1, h0'.cell rfl, h1.cell rfl, h1.cell rfl, h1.cell rfl⟩

/-- A post that at a panic asks for R. -/
def PanOnly (R : List PanicEntry → World → Prop) (Q : Exit → Act → World → Prop) : Exit → Act → World → Prop
  | .panic c, a, w => a.defers = [] ∧ R c w
  | e, a, w => Q e a w
theorem wp_region_pan {P : Program} {id : Nat} {ops : Array Oper} {b : Bool} {Q : Exit → Act → World → Prop} {a : Act} {w : World} {R : List PanicEntry → World → Prop} (hR : ∀ c a w, a.defers = [] → R c w → Q (.panic c) a w)
    (h : (Code.region id ops b).wp P (PanOnly R Q) a w) : (Code.region id ops b).wp P Q a w :=
  Code.wp_mono (fun e a w h => by cases e <;> first | exact h | exact hR _ _ _ h.1 h.2) h

set_option maxRecDepth 100000 in
set_option linter.unusedSimpArgs false in
set_option maxHeartbeats 1600000 in
theorem sites_any {lo hi : Nat} {v1 v2 v3 : Value} {p : Prg} (w : World) (h : PrgAt lo hi w v1 v2 v3 p) (hn : p.sites.length ≤ 1000000) (hn1 : p.caps.length ≤ 1000000) (hne : ∀ x ∈ p.sites, x.cs.length ≤ 1000000) :
    Calls Try.prog 31 #[.agg #[v1, v2, v3]] w fun e w' => e = endW (sitesW p.caps.length p.sites) ∧ Below w.heap.size w w' := by
  obtain ⟨a1, n1, rfl⟩ := h.caps.slice
  obtain ⟨a, c, rfl⟩ := h.sites.slice
  have hb0 : Below w.heap.size w (w.alloc (.cells #[.slice a1 p.caps.length n1, v2, .slice a p.sites.length c] 85)) := (Below.refl _ w).alloc (Nat.le_refl _) _
  go_enter Try.func31, Try.ntmps31
  by_cases h12 : p.sites.length ≤ 12
  rotate_left 1
  · have h12' : ¬ (p.sites.length : Int) ≤ 12 := by omega
    have HE : Hid (sitesW p.caps.length p.sites = some (0, 0, 111)) := Lib.hid (by simp [sitesW, wrongIf, h12])
    go_wp2_with (go_at_call 45; refine (need_no _ _ _ _).mono ?_; rintro e w1 ⟨rfl, hb1⟩)
    exact ⟨rfl, by rw [HE.out]; rfl, below_next hb0 hb1 (Nat.le_refl _)⟩
  · have h12' : (p.sites.length : Int) ≤ 12 := by omega
    have HE : Hid (sitesW p.caps.length p.sites = firstI (siteW p.caps.length) 0 p.sites) := Lib.hid (by simp [sitesW, wrongIf, h12])
    go_wp2_with fail
    refine (need_ok _ _ _ _).mono ?_
    rintro e w1 ⟨rfl, hb1⟩
    have hB1 := below_next hb0 hb1 (Nat.le_refl _)
    have hk1 := (blk_new w 85 #[.slice a1 p.caps.length n1, v2, .slice a p.sites.length c]).later hb1 (by simp)
    have k1 : w1.cell? ⟨w.heap.size, 2, none⟩ = some (.slice a p.sites.length c) := hk1.cell rfl
    clear hb0 hb1 h12'
    go_wp2_with fail
    clear k1
    go_loopw [18] (fun iv wr => ∃ k : Nat, k ≤ p.sites.length ∧ iv = .int .i64 (k : Int) ∧ Below w.heap.size w wr ∧ Blk wr w.heap.size 85 #[.slice a1 p.caps.length n1, v2, .slice a p.sites.length c] ∧
      Hid (∀ j y, j < k → p.sites[j]? = some y → siteW p.caps.length (0 + j) y = none)) (fun iv _ => p.sites.length - (intOf iv).toNat)
    case atStart => exact ⟨0, Nat.zero_le _, rfl, hB1, hk1, Lib.hid (fun j y hj => by omega)⟩
    case round =>
      clear hB1 hk1
      obtain ⟨k, hk, rfl, hB, hK, HN⟩ := hrel
      by_cases hlt : k < p.sites.length
      · have hlt' : (k : Int) < (p.sites.length : Int) := by omega
        have k0 : (0 : Int) ≤ (k : Int) := by omega
        have hw1 : IntKind.i64.wrap ((k : Int) + 1) = (k : Int) + 1 := by rw [IntKind.wrap_i64]; omega
        obtain ⟨b, off, ra, rc, x, rfl, -, hbh, hx, hcw, hdw, hr⟩ := h.sites.at hlt
        have hc := cell_stay hcw (hB.block b (Nat.lt_of_lt_of_le hbh h.top))
        have hd := cell_stay hdw (hB.block b (Nat.lt_of_lt_of_le hbh h.top))
        have hxl := hne x (List.mem_of_getElem? hx)
        have hwx := fun w => within_any (x.cs.length : Int) 1 6 w
        have hlt3 := hK.lt
        have hB' : Below w.heap.size w ((wr.alloc (.cells #[.slice ra x.cs.length rc, .bool x.d] 41)).alloc (.cells #[.int .i64 (k : Int), .int .i64 0, .int .i64 111] 82)) := (hB.alloc hB.size _).alloc (by have := hB.size; simp; omega) _
        have hbw : Below wr.heap.size wr ((wr.alloc (.cells #[.slice ra x.cs.length rc, .bool x.d] 41)).alloc (.cells #[.int .i64 (k : Int), .int .i64 0, .int .i64 111] 82)) := ((Below.refl _ wr).alloc (Nat.le_refl _) _).alloc (by simp) _
        have hK' := hK.later hbw hlt3
        obtain ⟨hN1, n0, m0, m1, m2⟩ := mem2 wr (.slice ra x.cs.length rc) x.d (k : Int)
        clear hcw hdw hB hK
        cases hv : withinB (x.cs.length : Int) 1 6 with
        | false =>
          rw [hv] at hwx
          have HX : Hid (sitesW p.caps.length p.sites = some ((k : Int), 0, 111)) := Lib.hid (by
            rw [HE.out]
            refine firstI_some (k := k) HN.out hx ?_
            simp [siteW, wrongIf, hv])
          clear hx hv
          go_wp2_with fail
          have hcall := hwx ((wr.alloc (.cells #[.slice ra x.cs.length rc, .bool x.d] 41)).alloc (.cells #[.int .i64 (k : Int), .int .i64 0, .int .i64 111] 82)).drew
          refine wp_region_still_tail 5 (by kernel_rfl) (by kernel_rfl) ?_
          simp only [List.take_succ_cons, List.take_zero, List.drop_succ_cons, List.drop_zero]
          change wpStill _ _ ((wr.alloc (.cells #[.slice ra x.cs.length rc, .bool x.d] 41)).alloc (.cells #[.int .i64 (k : Int), .int .i64 0, .int .i64 111] 82)).drew (fun a' => wpList _ _ _ _ a' ((wr.alloc (.cells #[.slice ra x.cs.length rc, .bool x.d] 41)).alloc (.cells #[.int .i64 (k : Int), .int .i64 0, .int .i64 111] 82)).drew) _ _
          repeat still_step
          still_call hcall
          repeat still_step
          refine wpStill_nil ?_
          go_wp2_with (go_at_call 45; refine (need_no _ _ _ _).mono ?_; rintro e w2 ⟨rfl, hb2⟩)
          exact ⟨rfl, by rw [HX.out]; rfl, below_next hB'.drew hb2 (Nat.le_refl _)⟩
        | true =>
          rw [hv] at hwx
          have HX := Lib.hid hx
          have HV : Hid (siteW p.caps.length k x = firstI (fun _ y => wrongIf (mayCaseB p.caps.length y) ((k : Int), 0, 111)) 0 x.cs) := Lib.hid (by simp [siteW, wrongIf, hv])
          clear hx hv
          have hS0 : Below w.heap.size w ((wr.alloc (.cells #[.slice ra x.cs.length rc, .bool x.d] 41)).alloc (.cells #[.int .i64 (k : Int), .int .i64 0, .int .i64 111] 82)).drew := hB'.drew
          go_wp2_with fail
          go_region_held3 (fun w' => Below w.heap.size w w' ∧ Blk w' w.heap.size 85 #[.slice a1 p.caps.length n1, v2, .slice (some ⟨b, off, none⟩) p.sites.length c] ∧ Blk w' (wr.heap.size + 1) 82 #[.int .i64 (k : Int), .int .i64 0, .int .i64 111] ∧
              w'.cell? ⟨wr.heap.size, 0, none⟩ = some (.slice ra x.cs.length rc) ∧ w'.cell? ⟨wr.heap.size + 1, 0, none⟩ = some (.int .i64 (k : Int)) ∧ w'.cell? ⟨wr.heap.size + 1, 1, none⟩ = some (.int .i64 0) ∧ w'.cell? ⟨wr.heap.size + 1, 2, none⟩ = some (.int .i64 111))
            (refine ⟨?_, ?_, ?_, ?_, ?_, ?_, ?_⟩ <;> first | assumption | exact Below.drew (by assumption) | exact Blk.drew (by assumption) | exact cell_drew (by assumption) | exact below_next (by assumption) hb2 (Nat.le_refl _) | exact keepB hb2 (by assumption) | exact keepK hb2 (by assumption))
            ((first
              | (go_at_call 46; refine (hwx _).mono ?_; rintro e w' ⟨rfl, rfl⟩)
              | (go_at_call 45; refine (need_ok _ _ _ _).mono ?_; rintro e w2 ⟨rfl, hb2⟩)))
          rename_i hS2
          obtain ⟨hBq, hKq, hWq, n0q, -, -, -⟩ := hS2
          clear hb2 hS0 n0 m0 m1 m2 hN1 hK' hB' hbw hwx hc hd
          go_wp2_with fail
          clear n0q
          obtain ⟨wo, rfl⟩ : ∃ wo : World, wo = wr := ⟨_, rfl⟩
          have hgo : wo.heap.size + 1 < w2.heap.size := hWq.lt
          go_loopw [34] (fun iv wr => ∃ m : Nat, m ≤ x.cs.length ∧ iv = .int .i64 (m : Int) ∧ Below w.heap.size w wr ∧ Blk wr w.heap.size 85 #[.slice a1 p.caps.length n1, v2, .slice (some ⟨b, off, none⟩) p.sites.length c] ∧ Blk wr (wo.heap.size + 1) 82 #[.int .i64 (k : Int), .int .i64 0, .int .i64 111] ∧
            Hid (∀ j y, j < m → x.cs[j]? = some y → wrongIf (mayCaseB p.caps.length y) ((k : Int), 0, 111) = none)) (fun iv _ => x.cs.length - (intOf iv).toNat)
          case atStart => exact ⟨0, Nat.zero_le _, rfl, hBq, hKq, hWq, Lib.hid (fun j y hj => by omega)⟩
          case round =>
            clear hBq hKq hWq hgo
            obtain ⟨m, hm, rfl, hB, hK, hW, HM⟩ := hrel
            by_cases hltm : m < x.cs.length
            · have hltm' : (m : Int) < (x.cs.length : Int) := by omega
              have m0 : (0 : Int) ≤ (m : Int) := by omega
              have hwm : IntKind.i64.wrap ((m : Int) + 1) = (m : Int) + 1 := by rw [IntKind.wrap_i64]; omega
              obtain ⟨b2, off2, y, rfl, -, -, hy, -, c0, c1, c2, c3⟩ := (hr.stay (stay_below' hB h.top)).at hltm
              have HY := Lib.hid hy
              clear hy hr
              have hbx : Below wr.heap.size wr (wr.alloc (.cells #[.bool y.s, .int .i64 y.c, .int .i64 y.v, .int .i64 y.o] 75)) := (Below.refl _ wr).alloc (Nat.le_refl _) _
              have e0 := blk_new wr 75 #[.bool y.s, .int .i64 y.c, .int .i64 y.v, .int .i64 y.o]
              have hBx := below_next hB hbx (Nat.le_refl _)
              have hKx := hK.later hbx hK.lt
              have hWx := hW.later hbx hW.lt
              have hmc := fun w => mayCase_any (.slice a1 p.caps.length n1) v2 (.slice (some ⟨b, off, none⟩) p.sites.length c) a1 p.caps.length n1 rfl hn1 y w
              have hS0 : (fun w' => Below w.heap.size w w' ∧ Blk w' w.heap.size 85 #[.slice a1 p.caps.length n1, v2, .slice (some ⟨b, off, none⟩) p.sites.length c] ∧ Blk w' (wo.heap.size + 1) 82 #[.int .i64 (k : Int), .int .i64 0, .int .i64 111] ∧
                w'.cell? ⟨w.heap.size, 0, none⟩ = some (.slice a1 p.caps.length n1) ∧ w'.cell? ⟨w.heap.size, 1, none⟩ = some v2 ∧ w'.cell? ⟨w.heap.size, 2, none⟩ = some (.slice (some ⟨b, off, none⟩) p.sites.length c) ∧
                w'.cell? ⟨wo.heap.size + 1, 0, none⟩ = some (.int .i64 (k : Int)) ∧ w'.cell? ⟨wo.heap.size + 1, 1, none⟩ = some (.int .i64 0) ∧ w'.cell? ⟨wo.heap.size + 1, 2, none⟩ = some (.int .i64 111) ∧
                w'.cell? ⟨wr.heap.size, 0, none⟩ = some (.bool y.s) ∧ w'.cell? ⟨wr.heap.size, 1, none⟩ = some (.int .i64 y.c) ∧ w'.cell? ⟨wr.heap.size, 2, none⟩ = some (.int .i64 y.v) ∧ w'.cell? ⟨wr.heap.size, 3, none⟩ = some (.int .i64 y.o)) (wr.alloc (.cells #[.bool y.s, .int .i64 y.c, .int .i64 y.v, .int .i64 y.o] 75)).drew := ⟨hBx.drew, hKx, hWx, hKx.cell rfl, hKx.cell rfl, hKx.cell rfl, hWx.cell rfl, hWx.cell rfl, hWx.cell rfl, e0.cell rfl, e0.cell rfl, e0.cell rfl, e0.cell rfl⟩
              simp only at hS0
              obtain ⟨s0, s1, s2, s3, s4, s5, s6, s7, s8, s9, s10, s11, s12⟩ := hS0
              clear hbx e0 hBx hKx hWx hB hK hW
              cases hcb : mayCaseB p.caps.length y with
              | true =>
                rw [hcb] at hmc
                have HC := Lib.hid hcb
                clear hcb
                go_wp2_with fail
                clear c0 c1 c2 c3
                refine wp_region_pan (R := fun _ _ => False) (fun _ _ _ _ h => h.elim) ?_
                refine wp_region_held_drew (S := (fun w' => Below w.heap.size w w' ∧ Blk w' w.heap.size 85 #[.slice a1 p.caps.length n1, v2, .slice (some ⟨b, off, none⟩) p.sites.length c] ∧ Blk w' (wo.heap.size + 1) 82 #[.int .i64 (k : Int), .int .i64 0, .int .i64 111] ∧
                w'.cell? ⟨w.heap.size, 0, none⟩ = some (.slice a1 p.caps.length n1) ∧ w'.cell? ⟨w.heap.size, 1, none⟩ = some v2 ∧ w'.cell? ⟨w.heap.size, 2, none⟩ = some (.slice (some ⟨b, off, none⟩) p.sites.length c) ∧
                w'.cell? ⟨wo.heap.size + 1, 0, none⟩ = some (.int .i64 (k : Int)) ∧ w'.cell? ⟨wo.heap.size + 1, 1, none⟩ = some (.int .i64 0) ∧ w'.cell? ⟨wo.heap.size + 1, 2, none⟩ = some (.int .i64 111) ∧
                w'.cell? ⟨wr.heap.size, 0, none⟩ = some (.bool y.s) ∧ w'.cell? ⟨wr.heap.size, 1, none⟩ = some (.int .i64 y.c) ∧ w'.cell? ⟨wr.heap.size, 2, none⟩ = some (.int .i64 y.v) ∧ w'.cell? ⟨wr.heap.size, 3, none⟩ = some (.int .i64 y.o))) (by kernel_rfl) ⟨s0, s1, s2, s3, s4, s5, s6, s7, s8, s9, s10, s11, s12⟩ (fun hHeld => ?_)
                refine wpAnyH_take (i := 0) (v := .agg #[.slice a1 p.caps.length n1, v2, .slice (some ⟨b, off, none⟩) p.sites.length c]) rfl (by kernel_rfl) (by kernel_rfl) (by kernel_rfl) (fun _ _ _ h => h) (Or.inl ⟨by rfl, ?_⟩) hHeld ?_
                · intro w' hSw
                  obtain ⟨-, -, -, x0, x1, x2, x3, x4, x5, x6, x7, x8, x9⟩ := hSw
                  go_simp
                simp only [Act.put, List.setIfInBounds_toArray, List.set_cons_zero, List.set_cons_succ]
                refine wpAnyH_take (i := 1) (v := .agg #[.bool y.s, .int .i64 y.c, .int .i64 y.v, .int .i64 y.o]) rfl (by kernel_rfl) (by kernel_rfl) (by kernel_rfl) (fun _ _ _ h => h) (Or.inl ⟨by rfl, ?_⟩) hHeld ?_
                · intro w' hSw
                  obtain ⟨-, -, -, x0, x1, x2, x3, x4, x5, x6, x7, x8, x9⟩ := hSw
                  go_simp
                simp only [Act.put, List.setIfInBounds_toArray, List.set_cons_zero, List.set_cons_succ]
                refine wpAnyH_take (i := 3) (v := .agg #[.int .i64 (k : Int), .int .i64 0, .int .i64 111]) rfl (by kernel_rfl) (by kernel_rfl) (by kernel_rfl) (fun _ _ _ h => h) (Or.inl ⟨by rfl, ?_⟩) hHeld ?_
                · intro w' hSw
                  obtain ⟨-, -, -, x0, x1, x2, x3, x4, x5, x6, x7, x8, x9⟩ := hSw
                  go_simp
                simp only [Act.put, List.setIfInBounds_toArray, List.set_cons_zero, List.set_cons_succ]
                refine wpAnyH_ready (rs := [2]) (by kernel_rfl) (by simp) ?_
                refine AllReadyH.cons rfl (fun K hKK => ?_) AllReadyH.nil
                go_simp
                refine (hmc _).mono ?_
                rintro e w3 ⟨rfl, hb3⟩
                refine hKK.out _ _ ?_ (fun hHeld2 => ?_)
                · obtain ⟨y0, y1, y2, x0, x1, x2, x3, x4, x5, x6, x7, x8, x9⟩ := hHeld
                  exact ⟨below_next y0 hb3 (Nat.le_refl _), keepK hb3 y1, keepK hb3 y2, keepB hb3 x0, keepB hb3 x1, keepB hb3 x2, keepB hb3 x3, keepB hb3 x4, keepB hb3 x5, keepB hb3 x6, keepB hb3 x7, keepB hb3 x8, keepB hb3 x9⟩
                clear hKK K
                try simp only [Act.put, List.setIfInBounds_toArray, List.set_cons_zero, List.set_cons_succ]
                refine wpAnyH_ready (rs := [4]) (by kernel_rfl) (by simp) ?_
                refine AllReadyH.cons rfl (fun K hKK => ?_) AllReadyH.nil
                go_simp
                refine (need_ok _ _ _ _).mono ?_
                rintro e w4 ⟨rfl, hb4⟩
                refine hKK.out _ _ ?_ (fun hHeld3 => ?_)
                · obtain ⟨y0, y1, y2, x0, x1, x2, x3, x4, x5, x6, x7, x8, x9⟩ := hHeld2
                  exact ⟨below_next y0 hb4 (Nat.le_refl _), keepK hb4 y1, keepK hb4 y2, keepB hb4 x0, keepB hb4 x1, keepB hb4 x2, keepB hb4 x3, keepB hb4 x4, keepB hb4 x5, keepB hb4 x6, keepB hb4 x7, keepB hb4 x8, keepB hb4 x9⟩
                clear hKK K
                refine wpAnyH_done (by kernel_rfl) ?_ _
                simp only [PanOnly, Act.put, List.setIfInBounds_toArray, List.set_cons_zero, List.set_cons_succ]
                obtain ⟨hBq, hKq, hWq, -⟩ := hHeld3
                clear hb3 hb4 hHeld2 s0 s1 s2 s3 s4 s5 s6 s7 s8 s9 s10 s11 s12
                go_wp2_with fail
                go_round
                case rel =>
                  refine ⟨m + 1, by omega, by go_num, hBq, hKq, hWq, Lib.hid (fun j z hj hz => ?_)⟩
                  by_cases e : j = m
                  · subst e
                    rw [HY.out] at hz
                    cases hz
                    rw [HC.out]; rfl
                  · exact HM.out j z (by omega) hz
                case measure => simp [intOf]; omega
              | false =>
                rw [hcb] at hmc
                have HZ : Hid (sitesW p.caps.length p.sites = some ((k : Int), 0, 111)) := Lib.hid (by
                  rw [HE.out]
                  refine firstI_some (k := k) HN.out HX.out ?_
                  rw [Nat.zero_add, HV.out]
                  refine firstI_some (k := m) HM.out HY.out ?_
                  rw [hcb]; rfl)
                clear hcb
                go_wp2_with fail
                clear c0 c1 c2 c3
                refine wp_region_pan (R := fun ch w' => ch = [{ v := .iface 82 (.agg #[.int .i64 (k : Int), .int .i64 0, .int .i64 111]), recovered := false }] ∧ Below w.heap.size w w') ?hR ?_
                case hR =>
                  rintro ch a' w' h1 ⟨rfl, h3⟩
                  go_simp
                  exact ⟨h1, by rw [HZ.out]; rfl, h3⟩
                refine wp_region_held_drew (S := (fun w' => Below w.heap.size w w' ∧ Blk w' w.heap.size 85 #[.slice a1 p.caps.length n1, v2, .slice (some ⟨b, off, none⟩) p.sites.length c] ∧ Blk w' (wo.heap.size + 1) 82 #[.int .i64 (k : Int), .int .i64 0, .int .i64 111] ∧
                w'.cell? ⟨w.heap.size, 0, none⟩ = some (.slice a1 p.caps.length n1) ∧ w'.cell? ⟨w.heap.size, 1, none⟩ = some v2 ∧ w'.cell? ⟨w.heap.size, 2, none⟩ = some (.slice (some ⟨b, off, none⟩) p.sites.length c) ∧
                w'.cell? ⟨wo.heap.size + 1, 0, none⟩ = some (.int .i64 (k : Int)) ∧ w'.cell? ⟨wo.heap.size + 1, 1, none⟩ = some (.int .i64 0) ∧ w'.cell? ⟨wo.heap.size + 1, 2, none⟩ = some (.int .i64 111) ∧
                w'.cell? ⟨wr.heap.size, 0, none⟩ = some (.bool y.s) ∧ w'.cell? ⟨wr.heap.size, 1, none⟩ = some (.int .i64 y.c) ∧ w'.cell? ⟨wr.heap.size, 2, none⟩ = some (.int .i64 y.v) ∧ w'.cell? ⟨wr.heap.size, 3, none⟩ = some (.int .i64 y.o))) (by kernel_rfl) ⟨s0, s1, s2, s3, s4, s5, s6, s7, s8, s9, s10, s11, s12⟩ (fun hHeld => ?_)
                refine wpAnyH_take (i := 0) (v := .agg #[.slice a1 p.caps.length n1, v2, .slice (some ⟨b, off, none⟩) p.sites.length c]) rfl (by kernel_rfl) (by kernel_rfl) (by kernel_rfl) (fun _ _ _ h => h) (Or.inl ⟨by rfl, ?_⟩) hHeld ?_
                · intro w' hSw
                  obtain ⟨-, -, -, x0, x1, x2, x3, x4, x5, x6, x7, x8, x9⟩ := hSw
                  go_simp
                simp only [Act.put, List.setIfInBounds_toArray, List.set_cons_zero, List.set_cons_succ]
                refine wpAnyH_take (i := 1) (v := .agg #[.bool y.s, .int .i64 y.c, .int .i64 y.v, .int .i64 y.o]) rfl (by kernel_rfl) (by kernel_rfl) (by kernel_rfl) (fun _ _ _ h => h) (Or.inl ⟨by rfl, ?_⟩) hHeld ?_
                · intro w' hSw
                  obtain ⟨-, -, -, x0, x1, x2, x3, x4, x5, x6, x7, x8, x9⟩ := hSw
                  go_simp
                simp only [Act.put, List.setIfInBounds_toArray, List.set_cons_zero, List.set_cons_succ]
                refine wpAnyH_take (i := 3) (v := .agg #[.int .i64 (k : Int), .int .i64 0, .int .i64 111]) rfl (by kernel_rfl) (by kernel_rfl) (by kernel_rfl) (fun _ _ _ h => h) (Or.inl ⟨by rfl, ?_⟩) hHeld ?_
                · intro w' hSw
                  obtain ⟨-, -, -, x0, x1, x2, x3, x4, x5, x6, x7, x8, x9⟩ := hSw
                  go_simp
                simp only [Act.put, List.setIfInBounds_toArray, List.set_cons_zero, List.set_cons_succ]
                refine wpAnyH_ready (rs := [2]) (by kernel_rfl) (by simp) ?_
                refine AllReadyH.cons rfl (fun K hKK => ?_) AllReadyH.nil
                go_simp
                refine (hmc _).mono ?_
                rintro e w3 ⟨rfl, hb3⟩
                refine hKK.out _ _ ?_ (fun hHeld2 => ?_)
                · obtain ⟨y0, y1, y2, x0, x1, x2, x3, x4, x5, x6, x7, x8, x9⟩ := hHeld
                  exact ⟨below_next y0 hb3 (Nat.le_refl _), keepK hb3 y1, keepK hb3 y2, keepB hb3 x0, keepB hb3 x1, keepB hb3 x2, keepB hb3 x3, keepB hb3 x4, keepB hb3 x5, keepB hb3 x6, keepB hb3 x7, keepB hb3 x8, keepB hb3 x9⟩
                clear hKK K
                try simp only [Act.put, List.setIfInBounds_toArray, List.set_cons_zero, List.set_cons_succ]
                refine wpAnyH_ready (rs := [4]) (by kernel_rfl) (by simp) ?_
                refine AllReadyH.cons rfl (fun K hKK => ?_) AllReadyH.nil
                go_simp
                refine (need_no _ _ _ _).mono ?_
                rintro e w4 ⟨rfl, hb4⟩
                exact ⟨rfl, rfl, below_next hHeld2.1 hb4 (Nat.le_refl _)⟩
            · have hltm' : ¬ (m : Int) < (x.cs.length : Int) := by omega
              have HY : Hid (siteW p.caps.length k x = none) := Lib.hid (by
                rw [HV.out, firstI_none]
                intro j y hy
                exact HM.out j y (by have := (List.getElem?_eq_some_iff.1 hy).1; omega) hy)
              clear HV HM
              go_wp2_with fail
              go_round
              case rel =>
                refine ⟨k + 1, by omega, by go_num, hB, hK, Lib.hid (fun j z hj hz => ?_)⟩
                by_cases e : j = k
                · subst e
                  rw [HX.out] at hz
                  cases hz
                  rw [Nat.zero_add, HY.out]
                · exact HN.out j z (by omega) hz
              case measure => simp [intOf]; omega
      · have hlt' : ¬ (k : Int) < (p.sites.length : Int) := by omega
        have HX : Hid (sitesW p.caps.length p.sites = none) := Lib.hid (by
          rw [HE.out, firstI_none]
          intro j x hx
          exact HN.out j x (by have := (List.getElem?_eq_some_iff.1 hx).1; omega) hx)
        go_wp2_with fail
        go_end0
        exact ⟨by rw [HX.out]; rfl, hB⟩
end Go.Proofs.Ytamkmmpockmpfaa
