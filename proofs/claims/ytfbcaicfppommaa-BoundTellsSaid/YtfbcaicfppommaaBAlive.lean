/-
  The walk of tollbarlaw19's alive.
-/
import Derived.Test.YtfbcaicfppommaaBRefOf
import Derived.Test.YtfbcaicfppommaaBRefPicks
namespace Go.Proofs.Ytfbcaicfppommaa
open Go.RowKit

theorem sm_one : Sm 1 1 1 0 1 1 := by constructor <;> omega
def oneV : Value := .agg #[.int .i64 1, .int .i64 1, .int .i64 1, .int .i64 0, .int .i64 1, .int .i64 1]
def zeroV : Value := .agg #[.int .i64 0, .int .i64 0, .int .i64 0, .int .i64 0, .int .i64 0, .int .i64 0]
theorem one_of (W : World) : Calls Try.prog 7 #[.agg #[.int .i64 1, .int .i64 1, .int .i64 1, .int .i64 0, .int .i64 1, .int .i64 1]] W fun e W' => e = .returned (.tuple #[.int .u64 544, .int .i64 0]) ∧ But [] W W' := Of_yes sm_one W
theorem one_hold (W : World) : Calls Try.prog 8 #[.agg #[.int .i64 1, .int .i64 1, .int .i64 1, .int .i64 0, .int .i64 1, .int .i64 1]] W fun e W' => e = .returned (.tuple #[.int .u64 56, .int .i64 0]) ∧ But [] W W' := Hold_yes sm_one W
theorem one_lock (W : World) : Calls Try.prog 9 #[.agg #[.int .i64 1, .int .i64 1, .int .i64 1, .int .i64 0, .int .i64 1, .int .i64 1], .int .i64 0] W fun e W' => e = .returned (.tuple #[.int .u64 0, .int .i64 2]) ∧ But [] W W' := Lock_out sm_one (i := 0) (by decide) W
theorem zero_of (W : World) : Calls Try.prog 7 #[.agg #[.int .i64 0, .int .i64 0, .int .i64 0, .int .i64 0, .int .i64 0, .int .i64 0]] W fun e W' => e = .returned (.tuple #[.int .u64 0, .int .i64 2]) ∧ But [] W W' := Of_no (z := ⟨0, 0, 0, 0, 0, 0⟩) (by decide) W
theorem fair_one (W : World) : Calls Try.prog 10 #[.string ⟨#[0, 1, 0, 1]⟩, .int .i64 2, .int .i64 2] W fun e W' => e = .returned (.bool true) ∧ But [] W W' := fair_any ⟨#[0, 1, 0, 1]⟩ 2 2 (by omega) (by omega) (by decide) W
theorem window_one (W : World) : Calls Try.prog 12 #[.string ⟨#[0, 0, 1]⟩, .int .i64 2] W fun e W' => e = .returned (.int .i64 3) ∧ But [] W W' := window_any ⟨#[0, 0, 1]⟩ 2 (by omega) (by omega) (by decide) W
theorem round_one (W : World) : Calls Try.prog 14 #[.int .i64 2, .int .i64 3] W fun e W' => e = .returned (.string ⟨#[0, 1, 0]⟩) ∧ But [] W W' := round_any 2 3 (by omega) (by omega) (by omega) W

set_option maxRecDepth 100000 in
set_option maxHeartbeats 1600000 in
theorem alive_any (w : World) :
    Calls Try.prog 6 #[] w fun e w' => e = .returned (.bool true) ∧ But [] w w' := by
  have hB : But [] w (w.alloc (szO ⟨1, 1, 1, 0, 1, 1⟩)) := (But.refl _ _).alloc _
  have hZ := szAt_new w ⟨1, 1, 1, 0, 1, 1⟩
  unfold szO at hB hZ
  simp only at hB hZ
  go_enter Try.func6, Try.ntmps6
  go_wp2_with fail
  generalize (w.alloc (.cells #[.int .i64 1, .int .i64 1, .int .i64 1, .int .i64 0, .int .i64 1, .int .i64 1] 23)) = w0 at hB hZ ⊢
  refine (one_of _).mono ?_
  rintro e w1 ⟨rfl, hb⟩
  have hB := hB.next hb
  have hZ := hZ.next hb
  obtain ⟨c0, c1, c2, c3, c4, c5⟩ := hZ.cells
  clear hb
  go_wp2_with fail
  refine (one_hold _).mono ?_
  rintro e w2 ⟨rfl, hb⟩
  have hB := hB.next hb
  have hZ := hZ.next hb
  obtain ⟨c0, c1, c2, c3, c4, c5⟩ := hZ.cells
  clear hb
  go_wp2_with fail
  refine (one_lock _).mono ?_
  rintro e w3 ⟨rfl, hb⟩
  have hB := hB.next hb
  clear hb hZ c0 c1 c2 c3 c4 c5
  go_wp2_with fail
  refine (zero_of _).mono ?_
  rintro e w4 ⟨rfl, hb⟩
  have hB := hB.next hb
  clear hb
  go_wp2_with fail
  refine (fair_one _).mono ?_
  rintro e w5 ⟨rfl, hb⟩
  have hB := hB.next hb
  clear hb
  go_wp2_with fail
  refine (window_one _).mono ?_
  rintro e w6 ⟨rfl, hb⟩
  have hB := hB.next hb
  clear hb
  go_wp2_with fail
  refine (round_one _).mono ?_
  rintro e w7 ⟨rfl, hb⟩
  have hB := hB.next hb
  clear hb
  go_wp2_with fail
  go_ret
  exact ⟨rfl, hB⟩
end Go.Proofs.Ytfbcaicfppommaa
