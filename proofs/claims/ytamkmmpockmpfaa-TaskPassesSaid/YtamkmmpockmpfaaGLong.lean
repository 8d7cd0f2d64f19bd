/-
  The walk of Long.
-/
import Derived.Test.YtamkmmpockmpfaaGSame
namespace Go.Proofs.Ytamkmmpockmpfaa
open Go.RowKit

/-- What is not long. -/
structure Tame (p : Prg) : Prop where
  caps : p.caps.length ≤ 50
  codes : p.codes.length ≤ 10
  sites : p.sites.length ≤ 15
  code : ∀ x ∈ p.codes, x.length ≤ 100
  site : ∀ x ∈ p.sites, x.cs.length ≤ 50
theorem Tame.small {p : Prg} (h : Tame p) : Small p := ⟨by have := h.caps; omega, by have := h.codes; omega, by have := h.sites; omega, fun x hx => by have := h.code x hx; omega, fun x hx => by have := h.site x hx; omega⟩
def LongPost (w : World) (p : Prg) (e : Ending) (w' : World) : Prop := ∃ b : Bool, e = .returned (.bool b) ∧ (b = false → Tame p) ∧ Below w.heap.size w w'

set_option maxRecDepth 100000 in
set_option maxHeartbeats 3200000 in
theorem long_any {lo hi : Nat} {v1 v2 v3 : Value} {p : Prg} (w : World) (h : PrgAt lo hi w v1 v2 v3 p) :
    Calls Try.prog 4 #[.agg #[v1, v2, v3]] w (LongPost w p) := by
  obtain ⟨a1, c1, rfl⟩ := h.caps.slice
  obtain ⟨a2, c2, rfl⟩ := h.codes.slice
  obtain ⟨a3, c3, rfl⟩ := h.sites.slice
  have hb0 : Below w.heap.size w (w.alloc (.cells #[.slice a1 p.caps.length c1, .slice a2 p.codes.length c2, .slice a3 p.sites.length c3] 26)) := (Below.refl _ w).alloc (Nat.le_refl _) _
  have g := h.later hb0
  have hk0 := blk_new w 26 #[.slice a1 p.caps.length c1, .slice a2 p.codes.length c2, .slice a3 p.sites.length c3]
  have k0 : (w.alloc (.cells #[.slice a1 p.caps.length c1, .slice a2 p.codes.length c2, .slice a3 p.sites.length c3] 26)).cell? ⟨w.heap.size, 0, none⟩ = some (.slice a1 p.caps.length c1) := hk0.cell rfl
  have k1 : (w.alloc (.cells #[.slice a1 p.caps.length c1, .slice a2 p.codes.length c2, .slice a3 p.sites.length c3] 26)).cell? ⟨w.heap.size, 1, none⟩ = some (.slice a2 p.codes.length c2) := hk0.cell rfl
  have k2 : (w.alloc (.cells #[.slice a1 p.caps.length c1, .slice a2 p.codes.length c2, .slice a3 p.sites.length c3] 26)).cell? ⟨w.heap.size, 2, none⟩ = some (.slice a3 p.sites.length c3) := hk0.cell rfl
  go_enter Try.func4, Try.ntmps4
  go_wp2_with fail
  obtain ⟨W, hW⟩ : ∃ W, W = w.alloc (.cells #[.slice a1 p.caps.length c1, .slice a2 p.codes.length c2, .slice a3 p.sites.length c3] 26) := ⟨_, rfl⟩
  rw [← hW] at hb0 g k0 k1 k2 ⊢
  clear hk0 hW
  go_loop [3, 4] (fun nv iv => ∃ (k : Nat) (N : Int), k ≤ p.codes.length ∧ k ≤ 20 ∧ iv = .int .i64 (k : Int) ∧ nv = .int .i64 N ∧ 0 ≤ N ∧ N ≤ 100 * (k : Int) ∧ Hid (∀ (j : Nat) (x : List In), j < k → p.codes[j]? = some x → x.length ≤ 100)) (fun _ iv => 20 - (intOf iv).toNat)
  case atStart => exact ⟨0, 0, Nat.zero_le _, by omega, rfl, rfl, by omega, by omega, Lib.hid (fun j x hj => by omega)⟩
  case round =>
    obtain ⟨k, N, hk, hk20, rfl, rfl, hN0, hN1, HN⟩ := hrel
    have kk : (0 : Int) ≤ (k : Int) := by omega
    have hw1 : IntKind.i64.wrap ((k : Int) + 1) = (k : Int) + 1 := by rw [IntKind.wrap_i64]; omega
    by_cases hlt : k < p.codes.length ∧ k < 20
    · have hlt' : (k : Int) < (p.codes.length : Int) := by omega
      have hlt2 : (k : Int) < 20 := by omega
      have hlt3 : decide ((k : Int) < 20) = true := by simpa using hlt2
      obtain ⟨b, off, ra, rc, x, rfl, -, -, hx, hc, -⟩ := g.codes.at hlt.1
      have HX := Lib.hid hx
      clear hx
      by_cases hl : 100 < x.length
      · have hl' : (100 : Int) < (x.length : Int) := by omega
        go_wp2_with fail
        go_ret
        exact ⟨true, rfl, (fun h => by cases h), hb0⟩
      · have hl' : ¬ (100 : Int) < (x.length : Int) := by omega
        have hw2 : IntKind.i64.wrap (N + (x.length : Int)) = N + (x.length : Int) := by rw [IntKind.wrap_i64]; omega
        go_wp2_with fail
        go_round
        case rel =>
          refine ⟨k + 1, N + (x.length : Int), by omega, by omega, by go_num, rfl, by omega, by omega, Lib.hid (fun j y hj hy => ?_)⟩
          by_cases e : j = k
          · subst e
            rw [HX.out] at hy
            cases hy
            omega
          · exact HN.out j y (by omega) hy
        case measure => simp [intOf]; omega
    · have HC : Hid (p.codes.length ≤ 10 → ∀ x ∈ p.codes, x.length ≤ 100) := Lib.hid (fun hle x hx => by
        obtain ⟨j, hj, rfl⟩ := List.mem_iff_getElem.1 hx
        exact HN.out j _ (by omega) (List.getElem?_eq_getElem hj))
      have hgo : (k < p.codes.length ∧ ¬ k < 20) ∨ ¬ k < p.codes.length := by omega
      clear hlt HN
      rcases hgo with ⟨g1, g2⟩ | g1
      · have g1' : (k : Int) < (p.codes.length : Int) := by omega
        have g2' : ¬ (k : Int) < 20 := by omega
        have g3' : decide ((k : Int) < 20) = false := by simpa using g2'
        go_wp2_with fail
        clear g1' g2' g3'
        go_loop [5] (fun iv => ∃ m : Nat, m ≤ p.sites.length ∧ m ≤ 30 ∧ iv = .int .i64 (m : Int) ∧ Hid (∀ (j : Nat) (x : Sit), j < m → p.sites[j]? = some x → x.cs.length ≤ 50)) (fun iv => 30 - (intOf iv).toNat)
        case atStart => exact ⟨0, Nat.zero_le _, by omega, rfl, Lib.hid (fun j x hj => by omega)⟩
        case round =>
          obtain ⟨m, hm, hm30, rfl, HM⟩ := hrel
          have mm : (0 : Int) ≤ (m : Int) := by omega
          have hw1 : IntKind.i64.wrap ((m : Int) + 1) = (m : Int) + 1 := by rw [IntKind.wrap_i64]; omega
          by_cases hlt : m < p.sites.length ∧ m < 30
          · have hlt' : (m : Int) < (p.sites.length : Int) := by omega
            have hlt2 : (m : Int) < 30 := by omega
            have hlt3 : decide ((m : Int) < 30) = true := by simpa using hlt2
            obtain ⟨b, off, ra, rc, x, rfl, -, -, hx, hc, -, -⟩ := g.sites.at hlt.1
            have HX := Lib.hid hx
            clear hx
            by_cases hl : 50 < x.cs.length
            · have hl' : (50 : Int) < (x.cs.length : Int) := by omega
              go_wp2_with fail
              go_ret
              exact ⟨true, rfl, (fun h => by cases h), hb0⟩
            · have hl' : ¬ (50 : Int) < (x.cs.length : Int) := by omega
              go_wp2_with fail
              go_round
              case rel =>
                refine ⟨m + 1, by omega, by omega, by go_num, Lib.hid (fun j y hj hy => ?_)⟩
                by_cases e : j = m
                · subst e
                  rw [HX.out] at hy
                  cases hy
                  omega
                · exact HM.out j y (by omega) hy
              case measure => simp [intOf]; omega
          · have HD : Hid (p.sites.length ≤ 15 → ∀ x ∈ p.sites, x.cs.length ≤ 50) := Lib.hid (fun hle x hx => by
              obtain ⟨j, hj, rfl⟩ := List.mem_iff_getElem.1 hx
              exact HM.out j _ (by omega) (List.getElem?_eq_getElem hj))
            have hgo : (m < p.sites.length ∧ ¬ m < 30) ∨ ¬ m < p.sites.length := by omega
            clear hlt HM
            rcases hgo with ⟨q1, q2⟩ | q1
            · have q1' : (m : Int) < (p.sites.length : Int) := by omega
              have q2' : ¬ (m : Int) < 30 := by omega
              have q3' : decide ((m : Int) < 30) = false := by simpa using q2'
              by_cases r1 : 50 < p.caps.length
              · have r1' : (50 : Int) < (p.caps.length : Int) := by omega
                go_wp2_with fail
                go_ret
                exact ⟨true, rfl, (fun h => by cases h), hb0⟩
              have r1' : ¬ (50 : Int) < (p.caps.length : Int) := by omega
              by_cases r2 : 10 < p.codes.length
              · have r2' : (10 : Int) < (p.codes.length : Int) := by omega
                have r2d : decide ((10 : Int) < (p.codes.length : Int)) = true := by simpa using r2'
                go_wp2_with fail
                go_ret
                exact ⟨true, rfl, (fun h => by cases h), hb0⟩
              have r2' : ¬ (10 : Int) < (p.codes.length : Int) := by omega
              have r2d : decide ((10 : Int) < (p.codes.length : Int)) = false := by simpa using r2'
              exfalso
              omega
            · have q1' : ¬ (m : Int) < (p.sites.length : Int) := by omega
              by_cases r1 : 50 < p.caps.length
              · have r1' : (50 : Int) < (p.caps.length : Int) := by omega
                go_wp2_with fail
                go_ret
                exact ⟨true, rfl, (fun h => by cases h), hb0⟩
              have r1' : ¬ (50 : Int) < (p.caps.length : Int) := by omega
              by_cases r2 : 10 < p.codes.length
              · have r2' : (10 : Int) < (p.codes.length : Int) := by omega
                have r2d : decide ((10 : Int) < (p.codes.length : Int)) = true := by simpa using r2'
                go_wp2_with fail
                go_ret
                exact ⟨true, rfl, (fun h => by cases h), hb0⟩
              have r2' : ¬ (10 : Int) < (p.codes.length : Int) := by omega
              have r2d : decide ((10 : Int) < (p.codes.length : Int)) = false := by simpa using r2'
              exfalso
              omega
      · have g1' : ¬ (k : Int) < (p.codes.length : Int) := by omega
        go_wp2_with fail
        clear g1'
        go_loop [5] (fun iv => ∃ m : Nat, m ≤ p.sites.length ∧ m ≤ 30 ∧ iv = .int .i64 (m : Int) ∧ Hid (∀ (j : Nat) (x : Sit), j < m → p.sites[j]? = some x → x.cs.length ≤ 50)) (fun iv => 30 - (intOf iv).toNat)
        case atStart => exact ⟨0, Nat.zero_le _, by omega, rfl, Lib.hid (fun j x hj => by omega)⟩
        case round =>
          obtain ⟨m, hm, hm30, rfl, HM⟩ := hrel
          have mm : (0 : Int) ≤ (m : Int) := by omega
          have hw1 : IntKind.i64.wrap ((m : Int) + 1) = (m : Int) + 1 := by rw [IntKind.wrap_i64]; omega
          by_cases hlt : m < p.sites.length ∧ m < 30
          · have hlt' : (m : Int) < (p.sites.length : Int) := by omega
            have hlt2 : (m : Int) < 30 := by omega
            have hlt3 : decide ((m : Int) < 30) = true := by simpa using hlt2
            obtain ⟨b, off, ra, rc, x, rfl, -, -, hx, hc, -, -⟩ := g.sites.at hlt.1
            have HX := Lib.hid hx
            clear hx
            by_cases hl : 50 < x.cs.length
            · have hl' : (50 : Int) < (x.cs.length : Int) := by omega
              go_wp2_with fail
              go_ret
              exact ⟨true, rfl, (fun h => by cases h), hb0⟩
            · have hl' : ¬ (50 : Int) < (x.cs.length : Int) := by omega
              go_wp2_with fail
              go_round
              case rel =>
                refine ⟨m + 1, by omega, by omega, by go_num, Lib.hid (fun j y hj hy => ?_)⟩
                by_cases e : j = m
                · subst e
                  rw [HX.out] at hy
                  cases hy
                  omega
                · exact HM.out j y (by omega) hy
              case measure => simp [intOf]; omega
          · have HD : Hid (p.sites.length ≤ 15 → ∀ x ∈ p.sites, x.cs.length ≤ 50) := Lib.hid (fun hle x hx => by
              obtain ⟨j, hj, rfl⟩ := List.mem_iff_getElem.1 hx
              exact HM.out j _ (by omega) (List.getElem?_eq_getElem hj))
            have hgo : (m < p.sites.length ∧ ¬ m < 30) ∨ ¬ m < p.sites.length := by omega
            clear hlt HM
            rcases hgo with ⟨q1, q2⟩ | q1
            · have q1' : (m : Int) < (p.sites.length : Int) := by omega
              have q2' : ¬ (m : Int) < 30 := by omega
              have q3' : decide ((m : Int) < 30) = false := by simpa using q2'
              by_cases r1 : 50 < p.caps.length
              · have r1' : (50 : Int) < (p.caps.length : Int) := by omega
                go_wp2_with fail
                go_ret
                exact ⟨true, rfl, (fun h => by cases h), hb0⟩
              have r1' : ¬ (50 : Int) < (p.caps.length : Int) := by omega
              by_cases r2 : 10 < p.codes.length
              · have r2' : (10 : Int) < (p.codes.length : Int) := by omega
                have r2d : decide ((10 : Int) < (p.codes.length : Int)) = true := by simpa using r2'
                go_wp2_with fail
                go_ret
                exact ⟨true, rfl, (fun h => by cases h), hb0⟩
              have r2' : ¬ (10 : Int) < (p.codes.length : Int) := by omega
              have r2d : decide ((10 : Int) < (p.codes.length : Int)) = false := by simpa using r2'
              by_cases r3 : 15 < p.sites.length
              · have r3' : (15 : Int) < (p.sites.length : Int) := by omega
                have r3d : decide ((15 : Int) < (p.sites.length : Int)) = true := by simpa using r3'
                go_wp2_with fail
                go_ret
                exact ⟨true, rfl, (fun h => by cases h), hb0⟩
              exfalso
              omega
            · have q1' : ¬ (m : Int) < (p.sites.length : Int) := by omega
              by_cases r1 : 50 < p.caps.length
              · have r1' : (50 : Int) < (p.caps.length : Int) := by omega
                go_wp2_with fail
                go_ret
                exact ⟨true, rfl, (fun h => by cases h), hb0⟩
              have r1' : ¬ (50 : Int) < (p.caps.length : Int) := by omega
              by_cases r2 : 10 < p.codes.length
              · have r2' : (10 : Int) < (p.codes.length : Int) := by omega
                have r2d : decide ((10 : Int) < (p.codes.length : Int)) = true := by simpa using r2'
                go_wp2_with fail
                go_ret
                exact ⟨true, rfl, (fun h => by cases h), hb0⟩
              have r2' : ¬ (10 : Int) < (p.codes.length : Int) := by omega
              have r2d : decide ((10 : Int) < (p.codes.length : Int)) = false := by simpa using r2'
              by_cases r3 : 15 < p.sites.length
              · have r3' : (15 : Int) < (p.sites.length : Int) := by omega
                have r3d : decide ((15 : Int) < (p.sites.length : Int)) = true := by simpa using r3'
                go_wp2_with fail
                go_ret
                exact ⟨true, rfl, (fun h => by cases h), hb0⟩
              have r3' : ¬ (15 : Int) < (p.sites.length : Int) := by omega
              have r3d : decide ((15 : Int) < (p.sites.length : Int)) = false := by simpa using r3'
              have HT : Hid (Tame p) := Lib.hid ⟨by omega, by omega, by omega, HC.out (by omega), HD.out (by omega)⟩
              go_wp2_with fail
              go_ret
              exact ⟨_, rfl, (fun _ => HT.out), hb0⟩
end Go.Proofs.Ytamkmmpockmpfaa
