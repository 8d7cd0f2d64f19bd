/-
  The walks of within, register, need, mayCase: what a check is made of.
-/
import Derived.Recover
import Derived.Defers
import Derived.Deep.Light
import Derived.Test.YtamkmmpockmpfaaGRow
namespace Go.Proofs.Ytamkmmpockmpfaa
open Go.RowKit

theorem within_any (v a b : Int) (w : World) :
    Calls Try.prog 46 #[.int .i64 v, .int .i64 a, .int .i64 b] w fun e w' => e = .returned (.bool (withinB v a b)) ∧ w' = w := by
  go_enter Try.func46, Try.ntmps46
  by_cases h1 : a ≤ v
  · by_cases h2 : v ≤ b
    · have HE : Hid (withinB v a b = true) := Lib.hid (by simp [withinB, h1, h2])
      go_wp2_with fail
      go_ret
      exact ⟨ret_v (by rw [HE.out]; rfl), rfl⟩
    · have HE : Hid (withinB v a b = false) := Lib.hid (by simp [withinB, h1, h2])
      go_wp2_with fail
      go_ret
      exact ⟨ret_v (by rw [HE.out]; rfl), rfl⟩
  · have HE : Hid (withinB v a b = false) := Lib.hid (by simp [withinB, h1])
    go_wp2_with fail
    go_ret
    exact ⟨ret_v (by rw [HE.out]; rfl), rfl⟩
theorem register_any (v : Int) (w : World) :
    Calls Try.prog 54 #[.int .i64 v] w fun e w' => e = .returned (.bool (withinB v 0 7)) ∧ w' = w := by
  go_enter Try.func54, Try.ntmps54
  go_wp2_with (go_at_call 46; refine (within_any _ _ _ _).mono ?_; rintro e w' ⟨rfl, rfl⟩)
  go_ret
  exact ⟨rfl, rfl⟩
theorem need_any (b : Bool) (x y z : Int) (w : World) :
    Calls Try.prog 45 #[.bool b, .agg #[.int .i64 x, .int .i64 y, .int .i64 z]] w fun e w' => e = endW (wrongIf b (x, y, z)) ∧ Below w.heap.size w w' := by
  have hb0 : Below w.heap.size w (w.alloc (.cells #[.int .i64 x, .int .i64 y, .int .i64 z] 82)) := (Below.refl _ w).alloc (Nat.le_refl _) _
  go_enter Try.func45, Try.ntmps45
  cases b with
  | true =>
    go_wp2_with fail
    go_end0
    exact ⟨rfl, hb0⟩
  | false =>
    go_wp2_with fail
    exact ⟨rfl, rfl, hb0⟩
set_option maxRecDepth 100000 in
theorem mayCase_any (v1 v2 v3 : Value) (a : Option Addr) (n c : Nat) (hv : v1 = .slice a n c) (hn : n ≤ 1000000) (x : Cas) (w : World) :
    Calls Try.prog 47 #[.agg #[v1, v2, v3], .agg #[.bool x.s, .int .i64 x.c, .int .i64 x.v, .int .i64 x.o]] w fun e w' => e = .returned (.bool (mayCaseB n x)) ∧ Below w.heap.size w w' := by
  subst hv
  obtain ⟨s, k, v, o⟩ := x
  have hw : IntKind.i64.wrap ((n : Int) - 1) = (n : Int) - 1 := by rw [IntKind.wrap_i64]; omega
  have HE : Hid (mayCaseB n ⟨s, k, v, o⟩ = ((((k == -1 || withinB k 0 ((n : Int) - 1)) && withinB v 0 7) && withinB o 0 7) && (!s || o == 0))) := Lib.hid rfl
  simp only
  generalize mayCaseB n ⟨s, k, v, o⟩ = r at HE
  have h1 := fun w => within_any k 0 ((n : Int) - 1) w
  have h2 := fun w => register_any v w
  have h3 := fun w => register_any o w
  generalize withinB k 0 ((n : Int) - 1) = p1 at h1 HE
  generalize withinB v 0 7 = p2 at h2 HE
  generalize withinB o 0 7 = p3 at h3 HE
  have hb0 : Below w.heap.size w ((w.alloc (.cells #[.slice a n c, v2, v3] 85)).alloc (.cells #[.bool s, .int .i64 k, .int .i64 v, .int .i64 o] 75)) := ((Below.refl _ w).alloc (Nat.le_refl _) _).alloc (by simp) _
  go_enter Try.func47, Try.ntmps47
  by_cases hk : k = -1
  · subst hk
    have ek : ((-1 : Int) == -1) = true := rfl
    cases p2
    · go_wp2_with (go_at_call 54; refine (h2 _).mono ?_; rintro e w' ⟨rfl, rfl⟩)
      go_ret
      exact ⟨ret_v (by rw [HE.out]; simp), hb0⟩
    cases p3
    · go_wp2_with (go_at_call 54; (first | refine (h2 _).mono ?_ | refine (h3 _).mono ?_); rintro e w' ⟨rfl, rfl⟩)
      go_ret
      exact ⟨ret_v (by rw [HE.out]; simp), hb0⟩
    cases s
    · go_wp2_with (go_at_call 54; (first | refine (h2 _).mono ?_ | refine (h3 _).mono ?_); rintro e w' ⟨rfl, rfl⟩)
      go_ret
      exact ⟨ret_v (by rw [HE.out]; simp), hb0⟩
    · go_wp2_with (go_at_call 54; (first | refine (h2 _).mono ?_ | refine (h3 _).mono ?_); rintro e w' ⟨rfl, rfl⟩)
      go_ret
      exact ⟨ret_v (by rw [HE.out]; simp), hb0⟩
  · have ek : (k == -1) = false := by simpa using hk
    cases p1
    · go_wp2_with (go_at_call 46; refine (h1 _).mono ?_; rintro e w' ⟨rfl, rfl⟩)
      go_ret
      exact ⟨ret_v (by rw [HE.out, ek]; simp), hb0⟩
    cases p2
    · go_wp2_with (first | (go_at_call 46; refine (h1 _).mono ?_; rintro e w' ⟨rfl, rfl⟩) | (go_at_call 54; refine (h2 _).mono ?_; rintro e w' ⟨rfl, rfl⟩))
      go_ret
      exact ⟨ret_v (by rw [HE.out, ek]; simp), hb0⟩
    cases p3
    · go_wp2_with (first | (go_at_call 46; refine (h1 _).mono ?_; rintro e w' ⟨rfl, rfl⟩) | (go_at_call 54; (first | refine (h2 _).mono ?_ | refine (h3 _).mono ?_); rintro e w' ⟨rfl, rfl⟩))
      go_ret
      exact ⟨ret_v (by rw [HE.out, ek]; simp), hb0⟩
    cases s
    · go_wp2_with (first | (go_at_call 46; refine (h1 _).mono ?_; rintro e w' ⟨rfl, rfl⟩) | (go_at_call 54; (first | refine (h2 _).mono ?_ | refine (h3 _).mono ?_); rintro e w' ⟨rfl, rfl⟩))
      go_ret
      exact ⟨ret_v (by rw [HE.out, ek]; simp), hb0⟩
    · go_wp2_with (first | (go_at_call 46; refine (h1 _).mono ?_; rintro e w' ⟨rfl, rfl⟩) | (go_at_call 54; (first | refine (h2 _).mono ?_ | refine (h3 _).mono ?_); rintro e w' ⟨rfl, rfl⟩))
      go_ret
      exact ⟨ret_v (by rw [HE.out, ek]; simp), hb0⟩
end Go.Proofs.Ytamkmmpockmpfaa
