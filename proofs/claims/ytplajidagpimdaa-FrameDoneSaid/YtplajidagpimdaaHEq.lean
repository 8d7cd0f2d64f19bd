/-
  When two frames, and two rows of registers, are told equal.
-/
import Derived.ChangeKeysEq
import Derived.Laws.StructEq
import Derived.Test.YtplajidagpimdaaHBase
namespace Go.Proofs.Ytplajidagpimdaa
open Go.RowKit

theorem undRegs : Try.prog.underlying 27 = some (.array 8 2) := by kernel_rfl
theorem cellsI64 : Try.prog.cellsOf 2 = 1 := by kernel_rfl
theorem infI64 : (Try.prog.info? 2).map (fun i => i.size) = some 1 := by kernel_rfl
set_option maxRecDepth 100000 in
set_option maxHeartbeats 1600000 in
theorem eqRegs (d : Nat) (a0 a1 a2 a3 a4 a5 a6 a7 b0 b1 b2 b3 b4 b5 b6 b7 : Int) (w : World) :
    (Op.equalIn (d + 1 + 1) 27 (.agg #[.int .i64 a0, .int .i64 a1, .int .i64 a2, .int .i64 a3, .int .i64 a4, .int .i64 a5, .int .i64 a6, .int .i64 a7]) (.agg #[.int .i64 b0, .int .i64 b1, .int .i64 b2, .int .i64 b3, .int .i64 b4, .int .i64 b5, .int .i64 b6, .int .i64 b7])).run Try.prog w = .ok (a0 == b0 && (a1 == b1 && (a2 == b2 && (a3 == b3 && (a4 == b4 && (a5 == b5 && (a6 == b6 && (a7 == b7)))))))) w := by
  obtain ⟨i, hi⟩ : ∃ i, Try.prog.info? 2 = some i := by
    cases h : Try.prog.info? 2 with
    | none => have := infI64; rw [h] at this; cases this
    | some i => exact ⟨i, rfl⟩
  rw [run_equalIn_array w (d + 1) _ _ undRegs hi, cellsI64]
  simp [Op.eqItems, List.range, List.range.loop, go_sem]
  repeat' split
  all_goals simp_all
end Go.Proofs.Ytplajidagpimdaa
