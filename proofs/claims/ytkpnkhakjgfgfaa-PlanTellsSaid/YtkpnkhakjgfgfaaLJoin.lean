/-
  The walks of joiner and of the closure that it answers.
-/
import Derived.Deep.CutRange
import Derived.Deep.Light
import Derived.Test.YtkpnkhakjgfgfaaLBase
namespace Go.Proofs.Ytkpnkhakjgfgfaa.Lq
open Go.RowKit

theorem joiner_any (p : Option Addr) (w : World) :
    Calls Try.prog 56 #[.pointer p] w fun e w' => e = .returned (.func (.func 61) #[] #[.pointer (some ⟨w.heap.size, 0, none⟩)]) ∧ w' = w.alloc (.cells #[.pointer p] 78) := by
  go_enter Try.func56, Try.ntmps56
  go_wp2_with fail
  go_ret
  exact ⟨rfl, rfl⟩

set_option maxHeartbeats 1000000 in
theorem join_any {B M X c : Nat} {g : Gs} {f l : Int} (a b : Int) (ha : I64b a) (hb : I64b b) (hc : c < maxLen) (w : World) (h : Lst w B M g f l c) (hX : Boxed w X 78 (.pointer (some ⟨B, 0, none⟩))) :
    Calls Try.prog 61 #[.int .i64 a, .int .i64 b, .pointer (some ⟨X, 0, none⟩)] w fun e w' => e = .returned (.tuple #[]) ∧ Lst w' B M (joG g a b) (joF g f a b) (joL g l a b) c ∧ But [B, M] w w' := by
  have hXc := hX.cell
  have hcM := h.cellM
  have hlk := h.map.look ha
  have hlB := h.ltB
  have hlM := h.map.lt
  have hXB : X ≠ B := type_ne hX h.head (by decide)
  have hXM : X ≠ M := map_ne h.map hX
  simp only [linkV] at hlk
  rcases hga : g a with _ | ⟨x, y⟩
  · rw [hga] at hlk
    simp only [Option.getD_none, Option.isSome_none] at hlk
    have hz := h.but ((But.refl [] w).alloc (.cells #[.int .i64 0, .int .i64 0] 104)) (by simp) (by simp)
    have f1 := hz.frozen 1
    have hcz := hz.cellF
    have hXz := ((But.refl [] w).alloc (.cells #[.int .i64 0, .int .i64 0] 104)).cell hXc (by simp)
    have hU : Lst ((w.setCell ⟨B, 1, none⟩ (.int .i64 b)).alloc (.cells #[.int .i64 0, .int .i64 0] 104)) B M (joG1 g a b) (joF g f a b) l c := by
      rw [joG1, joF, hga]
      exact (h.setF b).but ((But.refl [] _).alloc _) (by simp) (by simp)
    have hbu : But [B, M] w ((w.setCell ⟨B, 1, none⟩ (.int .i64 b)).alloc (.cells #[.int .i64 0, .int .i64 0] 104)) := ((But.refl _ _).set (p := ⟨B, 1, none⟩) (by simp) _).alloc _
    have hXu := hbu.boxed hX (by simp [hXB, hXM])
    go_enter Try.func61, Try.ntmps61
    clear h hga hX hz
    go_upto_region 5 with fail
    generalize (w.setCell ⟨B, 1, none⟩ (.int .i64 b)).alloc (.cells #[.int .i64 0, .int .i64 0] 104) = u at hU hbu hXu ⊢
    clear hXc hcM hlk f1 hXz hcz
    have hXc := hXu.cell
    have hcM := hU.cellM
    have hlk := hU.map.look hb
    simp only [linkV] at hlk
    rcases hgb : joG1 g a b b with _ | ⟨x2, y2⟩
    · rw [hgb] at hlk
      simp only [Option.getD_none, Option.isSome_none] at hlk
      have hz := hU.but ((But.refl [] u).alloc (.cells #[.int .i64 0, .int .i64 0] 104)) (by simp) (by simp)
      have f2 := hz.frozen 2
      have hcz := hz.cellL
      have hXz := ((But.refl [] u).alloc (.cells #[.int .i64 0, .int .i64 0] 104)).cell hXc (by simp)
      have hend : Lst ((u.alloc (.cells #[.int .i64 0, .int .i64 0] 104)).setCell ⟨B, 2, none⟩ (.int .i64 a)) B M (joG g a b) (joF g f a b) (joL g l a b) c := by
        rw [← joL1, joL, hgb, joG, joG2, hgb]
        exact hz.setL a
      have hbe : But [B, M] w ((u.alloc (.cells #[.int .i64 0, .int .i64 0] 104)).setCell ⟨B, 2, none⟩ (.int .i64 a)) := (hbu.alloc _).set (p := ⟨B, 2, none⟩) (by simp) _
      clear hU hXu hgb hbu hz
      go_wp2_with fail
      go_end0
      exact ⟨rfl, hend, hbe⟩
    · rw [hgb] at hlk
      simp only [Option.getD_some, Option.isSome_some] at hlk
      have hb1 : But [] u (u.alloc (.cells #[.int .i64 a, .int .i64 y2] 104)) := (But.refl _ _).alloc _
      have h1 := hU.but hb1 (by simp) (by simp)
      obtain ⟨u2, hrun, hm2, hb2⟩ := (h1.map.but ((But.refl [] _).drew) (by simp)).store hc hb (a, y2)
      simp only [linkV] at hrun
      have hXc1 := hb1.cell hXc (by simp)
      have hcM1 := h1.cellM
      have hend : Lst u2 B M (joG g a b) (joF g f a b) (joL g l a b) c := by
        rw [← joL1, joL, hgb, joG, joG2, hgb]
        rw [hgb] at hm2
        exact (h1.but ((But.refl [] _).drew) (by simp) (by simp)).mapped hm2 hb2
      have hbe : But [B, M] w u2 := (hbu.alloc _).drew.trans hb2 (by simp)
      clear hU hXu hgb hbu h1 hm2 hb1 hb2
      go_wp2_with fail
      go_region
      all_goals go_wp2_with fail
      all_goals go_end0
      all_goals exact ⟨rfl, hend, hbe⟩
  · rw [hga] at hlk
    simp only [Option.getD_some, Option.isSome_some] at hlk
    have hb1 : But [] w (w.alloc (.cells #[.int .i64 x, .int .i64 b] 104)) := (But.refl _ _).alloc _
    have h1 := h.but hb1 (by simp) (by simp)
    obtain ⟨u, hrun, hm2, hb2⟩ := (h1.map.but ((But.refl [] _).drew) (by simp)).store hc ha (x, b)
    simp only [linkV] at hrun
    have hXc1 := hb1.cell hXc (by simp)
    have hcM1 := h1.cellM
    have hU : Lst u B M (joG1 g a b) (joF g f a b) l c := by
      rw [joG1, joF, hga]
      rw [hga] at hm2
      exact (h1.but ((But.refl [] _).drew) (by simp) (by simp)).mapped hm2 hb2
    have hbu : But [B, M] w u := ((But.refl [B, M] w).alloc _).drew.trans hb2 (by simp)
    have hXu := hbu.boxed hX (by simp [hXB, hXM])
    go_enter Try.func61, Try.ntmps61
    clear h hga hX hm2 hb1 hb2 h1
    go_upto_region 3 with fail
    go_region
    all_goals go_upto_region 5 with fail
    clear hXc hcM hlk hrun hXc1 hcM1
    have hXc := hXu.cell
    have hcM := hU.cellM
    have hlk := hU.map.look hb
    simp only [linkV] at hlk
    rcases hgb : joG1 g a b b with _ | ⟨x2, y2⟩
    · rw [hgb] at hlk
      simp only [Option.getD_none, Option.isSome_none] at hlk
      have hz := hU.but ((But.refl [] u).alloc (.cells #[.int .i64 0, .int .i64 0] 104)) (by simp) (by simp)
      have f2 := hz.frozen 2
      have hcz := hz.cellL
      have hXz := ((But.refl [] u).alloc (.cells #[.int .i64 0, .int .i64 0] 104)).cell hXc (by simp)
      have hend : Lst ((u.alloc (.cells #[.int .i64 0, .int .i64 0] 104)).setCell ⟨B, 2, none⟩ (.int .i64 a)) B M (joG g a b) (joF g f a b) (joL g l a b) c := by
        rw [← joL1, joL, hgb, joG, joG2, hgb]
        exact hz.setL a
      have hbe : But [B, M] w ((u.alloc (.cells #[.int .i64 0, .int .i64 0] 104)).setCell ⟨B, 2, none⟩ (.int .i64 a)) := (hbu.alloc _).set (p := ⟨B, 2, none⟩) (by simp) _
      clear hU hXu hgb hbu hz
      go_wp2_with fail
      go_end0
      exact ⟨rfl, hend, hbe⟩
    · rw [hgb] at hlk
      simp only [Option.getD_some, Option.isSome_some] at hlk
      have hb1 : But [] u (u.alloc (.cells #[.int .i64 a, .int .i64 y2] 104)) := (But.refl _ _).alloc _
      have h1 := hU.but hb1 (by simp) (by simp)
      obtain ⟨u2, hrun, hm2, hb2⟩ := (h1.map.but ((But.refl [] _).drew) (by simp)).store hc hb (a, y2)
      simp only [linkV] at hrun
      have hXc1 := hb1.cell hXc (by simp)
      have hcM1 := h1.cellM
      have hend : Lst u2 B M (joG g a b) (joF g f a b) (joL g l a b) c := by
        rw [← joL1, joL, hgb, joG, joG2, hgb]
        rw [hgb] at hm2
        exact (h1.but ((But.refl [] _).drew) (by simp) (by simp)).mapped hm2 hb2
      have hbe : But [B, M] w u2 := (hbu.alloc _).drew.trans hb2 (by simp)
      clear hU hXu hgb hbu h1 hm2 hb1 hb2
      go_wp2_with fail
      go_region
      all_goals go_wp2_with fail
      all_goals go_end0
      all_goals exact ⟨rfl, hend, hbe⟩
end Go.Proofs.Ytkpnkhakjgfgfaa.Lq
