/-
  The walks of the document's own May, At, and of its tests.
-/
import Derived.Test.YtplajidagpimdaaHAlive
import Derived.Deep.QuietTactic
import Derived.BigQuiet
namespace Go.Proofs.Ytplajidagpimdaa
open Go.RowKit

set_option maxRecDepth 100000 in
theorem rlocal_any (o : Nat) (w : World) : Calls Try.prog 27 #[.int .u8 (o : Int)] w fun e w' => e = .returned (.bool (locO o)) ∧ w' = w := by
  have HE : Hid (locO o = (decide (1 ≤ o) && decide (o ≤ 4))) := Lib.hid rfl
  go_enter Try.func27, Try.ntmps27
  by_cases h1 : 1 ≤ o
  · have h1' : (1 : Int) ≤ (o : Int) := by omega
    have h1d : decide ((1 : Int) ≤ (o : Int)) = true := by simpa using h1'
    by_cases h4 : o ≤ 4
    · have h4' : (o : Int) ≤ 4 := by omega
      have h4d : decide ((o : Int) ≤ 4) = true := by simpa using h4'
      have HR : Hid (locO o = true) := Lib.hid (by rw [HE.out]; simp [h1, h4])
      go_wp2_with fail
      go_ret
      exact ⟨by rw [HR.out]; rfl, rfl⟩
    · have h4' : ¬ (o : Int) ≤ 4 := by omega
      have h4d : decide ((o : Int) ≤ 4) = false := by simpa using h4'
      have HR : Hid (locO o = false) := Lib.hid (by rw [HE.out]; simp [h4])
      go_wp2_with fail
      go_ret
      exact ⟨by rw [HR.out]; rfl, rfl⟩
  · have h1' : ¬ (1 : Int) ≤ (o : Int) := by omega
    have h1d : decide ((1 : Int) ≤ (o : Int)) = false := by simpa using h1'
    have HR : Hid (locO o = false) := Lib.hid (by rw [HE.out]; simp [h1])
    go_wp2_with fail
    go_ret
    exact ⟨by rw [HR.out]; rfl, rfl⟩
set_option maxRecDepth 100000 in
theorem rreg_any (v : Int) (w : World) : Calls Try.prog 28 #[.int .i64 v] w fun e w' => e = .returned (.bool (regB v)) ∧ w' = w := by
  go_enter Try.func28, Try.ntmps28
  by_cases h1 : 0 ≤ v
  · have h1d : decide (0 ≤ v) = true := by simpa using h1
    by_cases h4 : v < 8
    · have h4d : decide (v < 8) = true := by simpa using h4
      have HR : Hid (regB v = true) := Lib.hid (regB_iff.2 ⟨h1, h4⟩)
      go_wp2_with fail
      go_ret
      exact ⟨by rw [HR.out]; rfl, rfl⟩
    · have h4d : decide (v < 8) = false := by simpa using h4
      have HR : Hid (regB v = false) := Lib.hid (by cases hr : regB v with | false => rfl | true => exact absurd (regB_iff.1 hr).2 h4)
      go_wp2_with fail
      go_ret
      exact ⟨by rw [HR.out]; rfl, rfl⟩
  · have h1d : decide (0 ≤ v) = false := by simpa using h1
    have HR : Hid (regB v = false) := Lib.hid (by cases hr : regB v with | false => rfl | true => exact absurd (regB_iff.1 hr).1 h1)
    go_wp2_with fail
    go_ret
    exact ⟨by rw [HR.out]; rfl, rfl⟩

set_option maxRecDepth 100000 in
set_option maxHeartbeats 1600000 in
theorem rmay_any {lo hi : Nat} {v1 v2 v3 : Value} {p : Prg} (w : World) (h : PrgAt lo hi w v1 v2 v3 p) (hs : Small p) (f : Fra) :
    Calls Try.prog 11 #[.agg #[v1, v2, v3], fraV f] w fun e w' => e = .returned (.bool (atF p f).isSome) ∧ Below w.heap.size w w' := by
  obtain ⟨a2, c2, rfl⟩ := h.codes.slice
  obtain ⟨wf, hwf⟩ : ∃ wf, wf = (w.alloc (.cells #[v1, .slice a2 p.codes.length c2, v3] 26)).alloc (.cells (fraA f) 29) := ⟨_, rfl⟩
  have hB : Below w.heap.size w wf := by rw [hwf]; exact below2 w _ _
  have hP : Blk wf w.heap.size 26 #[v1, .slice a2 p.codes.length c2, v3] := by rw [hwf]; exact (blk_new w _ _).alloc _
  have hF : FrAt wf (w.heap.size + 1) f := by rw [hwf]; exact blk_at (by simp)
  have hh := h.later hB
  have p1 := hP.cell (k := 1) (v := .slice a2 p.codes.length c2) rfl
  obtain ⟨q0, q1, -, -, -, -, -, -, -, -⟩ := fra_cells hF
  have hn := hs.codes
  go_enter Try.func11, Try.ntmps11
  go_wp2_with fail
  rw [← hwf]
  clear hwf hP hF
  by_cases h0 : 0 ≤ f.c
  rotate_left
  · have h0d : decide (0 ≤ f.c) = false := by simpa using h0
    have HE : Hid ((atF p f).isSome = false) := Lib.hid (by unfold atF atIn; rw [if_neg (by omega)]; rfl)
    clear h0
    go_quiet (fail)
    go_wp2_with fail
    go_ret
    exact ⟨by rw [HE.out]; rfl, below_drewN hB _⟩
  have h0d : decide (0 ≤ f.c) = true := by simpa using h0
  by_cases h1 : f.c < (p.codes.length : Int)
  rotate_left
  · have h1d : decide (f.c < (p.codes.length : Int)) = false := by simpa using h1
    have HE : Hid ((atF p f).isSome = false) := Lib.hid (by
      unfold atF atIn
      split
      · rw [List.getElem?_eq_none (by omega)]; rfl
      · rfl)
    clear h1
    go_quiet (fail)
    go_wp2_with fail
    go_ret
    exact ⟨by rw [HE.out]; rfl, below_drewN hB _⟩
  have h1d : decide (f.c < (p.codes.length : Int)) = true := by simpa using h1
  by_cases h2 : 0 ≤ f.p
  rotate_left
  · have h2d : decide (0 ≤ f.p) = false := by simpa using h2
    have HE : Hid ((atF p f).isSome = false) := Lib.hid (by unfold atF atIn; rw [if_neg (by omega)]; rfl)
    clear h2
    go_quiet (fail)
    go_wp2_with fail
    go_ret
    exact ⟨by rw [HE.out]; rfl, below_drewN hB _⟩
  have h2d : decide (0 ≤ f.p) = true := by simpa using h2
  obtain ⟨m, hm⟩ : ∃ m : Nat, f.c = (m : Int) := ⟨f.c.toNat, by omega⟩
  have hml : m < p.codes.length := by omega
  obtain ⟨b, off, ra, rc, x, rfl, -, hbh, hx, hc, hr⟩ := hh.codes.at hml
  have hc' := hc
  have hw : IntKind.i64.wrap ((p.codes.length : Int) - 1) = (p.codes.length : Int) - 1 := by rw [IntKind.wrap_i64]; omega
  have hmin : min f.c ((p.codes.length : Int) - 1) = f.c := by omega
  have hmin2 : min (m : Int) ((p.codes.length : Int) - 1) = (m : Int) := by omega
  have hmax : max f.c 0 = f.c := by omega
  have hmax2 : max (m : Int) 0 = (m : Int) := by omega
  have hm0 : (0 : Int) ≤ (m : Int) := by omega
  have hm1 : (m : Int) < (p.codes.length : Int) := by omega
  have hle : (m : Int) ≤ (p.codes.length : Int) - 1 := by omega
  have HX := Lib.hid hx
  have HM := Lib.hid hm
  rw [hm] at q0
  have h0d' : decide ((0 : Int) ≤ (m : Int)) = true := by simp
  have h1d' : decide ((m : Int) < (p.codes.length : Int)) = true := by simpa using hml
  clear hx hm h0 h0d h1 h1d hmin hmax
  by_cases h3 : f.p < (x.length : Int)
  · have h3d : decide (f.p < (x.length : Int)) = true := by simpa using h3
    have HE : Hid ((atF p f).isSome = true) := Lib.hid (by
      unfold atF atIn
      rw [if_pos ⟨by rw [HM.out]; omega, h2⟩, HM.out, Int.toNat_natCast, HX.out]
      simp only [Option.bind_some]
      rw [List.getElem?_eq_getElem (by omega)]; rfl)
    clear h3
    go_quiet (fail)
    go_wp2_with fail
    go_ret
    exact ⟨by rw [HE.out]; rfl, below_drewN hB _⟩
  · have h3d : decide (f.p < (x.length : Int)) = false := by simpa using h3
    have HE : Hid ((atF p f).isSome = false) := Lib.hid (by
      unfold atF atIn
      rw [if_pos ⟨by rw [HM.out]; omega, h2⟩, HM.out, Int.toNat_natCast, HX.out]
      simp only [Option.bind_some]
      rw [List.getElem?_eq_none (by omega)]; rfl)
    clear h3
    go_quiet (fail)
    go_wp2_with fail
    go_ret
    exact ⟨by rw [HE.out]; rfl, below_drewN hB _⟩

set_option maxRecDepth 100000 in
set_option maxHeartbeats 1600000 in
theorem rat_any {lo hi : Nat} {v1 v2 v3 : Value} {p : Prg} (w : World) (h : PrgAt lo hi w v1 v2 v3 p) (f : Fra) {x : In} (hx : atF p f = some x) :
    Calls Try.prog 12 #[.agg #[v1, v2, v3], fraV f] w fun e w' => e = .returned (.agg #[.int .u8 (x.o : Int), .int .i64 x.a, .int .i64 x.b, .int .i64 x.c, .int .i64 x.k]) ∧ Below w.heap.size w w' := by
  obtain ⟨a2, c2, rfl⟩ := h.codes.slice
  obtain ⟨m, n, c, hfc, hfp, hcm, hcn⟩ := atF_parts hx
  obtain ⟨wf, hwf⟩ : ∃ wf, wf = ((w.alloc (.cells #[v1, .slice a2 p.codes.length c2, v3] 26)).alloc (.cells (fraA f) 29)).alloc (.cells #[.int .u8 0, .int .i64 0, .int .i64 0, .int .i64 0, .int .i64 0] 33) := ⟨_, rfl⟩
  have hB : Below w.heap.size w wf := by rw [hwf]; exact below3 w _ _ _
  have hP : Blk wf w.heap.size 26 #[v1, .slice a2 p.codes.length c2, v3] := by rw [hwf]; exact ((blk_new w _ _).alloc _).alloc _
  have hF : FrAt wf (w.heap.size + 1) f := by rw [hwf]; exact (blk_at (by simp)).alloc _
  have hZ : Blk wf (w.heap.size + 1 + 1) 33 #[.int .u8 0, .int .i64 0, .int .i64 0, .int .i64 0, .int .i64 0] := by rw [hwf]; exact blk_at (by simp)
  have hh := h.later hB
  have p1 := hP.cell (k := 1) (v := .slice a2 p.codes.length c2) rfl
  obtain ⟨q0, q1, -, -, -, -, -, -, -, -⟩ := fra_cells hF
  rw [hfc] at q0
  rw [hfp] at q1
  have hml := (List.getElem?_eq_some_iff.1 hcm).1
  obtain ⟨b, off, ra, rc, c', rfl, -, hbh, hc', hcc, hr⟩ := hh.codes.at hml
  obtain rfl : c' = c := by rw [hcm] at hc'; exact (Option.some.inj hc').symm
  have hnl := (List.getElem?_eq_some_iff.1 hcn).1
  obtain ⟨b2, off2, x', rfl, -, hbh2, hx', -, d0, d1, d2, d3, d4⟩ := hr.at hnl
  obtain rfl : x' = x := by rw [hcn] at hx'; exact (Option.some.inj hx').symm
  have m0 : (0 : Int) ≤ (m : Int) := by omega
  have m1 : (m : Int) < (p.codes.length : Int) := by omega
  have n0 : (0 : Int) ≤ (n : Int) := by omega
  have n1 : (n : Int) < (c'.length : Int) := by omega
  have hne : b ≠ w.heap.size + 1 + 1 := by have := h.top; have := hh.top; omega
  have hne2 : b2 ≠ w.heap.size + 1 + 1 := by have := h.top; omega
  obtain ⟨z0, z1, z2, z3, z4⟩ := ins_cells (x := In.zero) hZ
  have zf := hZ.frozen
  obtain ⟨w5, hw5, hX5, hb5⟩ : ∃ w5, w5 = ((((((wf.setCell ⟨w.heap.size + 1 + 1, 0, none⟩ (.int .u8 (x'.o : Int))).setCell ⟨w.heap.size + 1 + 1, 1, none⟩ (.int .i64 x'.a)).setCell ⟨w.heap.size + 1 + 1, 2, none⟩ (.int .i64 x'.b)).setCell ⟨w.heap.size + 1 + 1, 3, none⟩ (.int .i64 x'.c)).setCell ⟨w.heap.size + 1 + 1, 4, none⟩ (.int .i64 x'.k))).drew ∧ Blk w5 (w.heap.size + 1 + 1) 33 #[.int .u8 (x'.o : Int), .int .i64 x'.a, .int .i64 x'.b, .int .i64 x'.c, .int .i64 x'.k] ∧ But [w.heap.size + 1 + 1] wf w5 := ⟨_, rfl, (sto5 hZ (.int .u8 (x'.o : Int)) (.int .i64 x'.a) (.int .i64 x'.b) (.int .i64 x'.c) (.int .i64 x'.k)).1.drew, (sto5 hZ (.int .u8 (x'.o : Int)) (.int .i64 x'.a) (.int .i64 x'.b) (.int .i64 x'.c) (.int .i64 x'.k)).2.drew⟩
  have hB5 := below_but hB hb5 (Nat.le_refl _) (by omega)
  have HW := Lib.hid hw5
  clear hx hcm hcn hc' hx' hfc hfp hw5 hml hnl hr hP hF hZ hh
  go_enter Try.func12, Try.ntmps12
  go_wp2_with fail
  rw [← hwf]
  clear hwf
  go_region
  go_wp2_with fail
  rw [← HW.out]
  obtain ⟨g0, g1, g2, g3, g4⟩ := ins_cells (x := x') hX5
  refine bodyPost_ret (v := .agg #[.int .u8 (x'.o : Int), .int .i64 x'.a, .int .i64 x'.b, .int .i64 x'.c, .int .i64 x'.k]) (by simp [results, Try.f12, go_sem, g0, g1, g2, g3, g4]) rfl ?_
  exact ⟨rfl, hB5⟩
end Go.Proofs.Ytplajidagpimdaa
