/-
  A size as it is handed over.
-/
import Derived.Test.YtfbcaicfppommaaBSize
import Derived.Test.YtfbcaicfppommaaRows
import Derived.ProofKit
import Derived.OpenShut
import Derived.ShutString
import Derived.ChangeOld
import Derived.Below
namespace Go.Proofs.Ytfbcaicfppommaa
open Go.ChangeShapes Go.WideShapes Go.ChangeAt Go.RowKit

theorem cSize : Try.prog.cellsOf 23 = 6 := by kernel_rfl
theorem cInt : Try.prog.cellsOf 3 = 1 := by kernel_rfl
theorem i64_range {z : Int} (h : (Lit.int .i64 z).wf = true) : I64b z := by
  simp only [Lit.wf, Bool.and_eq_true, decide_eq_true_eq] at h
  have e1 : IntKind.min .i64 = -9223372036854775808 := by decide
  have e2 : IntKind.max .i64 = 9223372036854775807 := by decide
  exact ⟨by omega, by omega⟩
theorem six {α : Type} {l : List α} (h : l.length = 6) : ∃ v0 v1 v2 v3 v4 v5, l = [v0, v1, v2, v3, v4, v5] := by
  match l, h with
  | [v0, v1, v2, v3, v4, v5], _ => exact ⟨v0, v1, v2, v3, v4, v5, rfl⟩
set_option maxRecDepth 100000 in
/-- A size that is handed over is one. -/
theorem open_cellsS {H : Type} {enc : TypeId × Value → H} {W : World} {n : Nat} {cs : List Value} {x : DataW H × List MemPlace} (hcs : cs.length = 6)
    (h : DataW.trod enc Try.prog W 0 (fun _ => true) true n 23 cs = some x) : ∃ z : Sz, z.ok ∧ cs = [.int .i64 z.W, .int .i64 z.P, .int .i64 z.T, .int .i64 z.C, .int .i64 z.N, .int .i64 z.Q] := by
  have hs := DataW.trod_struct Try.underlying23 h
  rw [cSize] at hs
  obtain ⟨xs, m, _, _, _, hl, hf⟩ := hs
  obtain ⟨v0, v1, v2, v3, v4, v5, rfl⟩ := six hcs
  obtain ⟨y0, y1, y2, y3, y4, y5, rfl⟩ := six (show xs.length = 6 from hl)
  have k0 : DataW.trod enc Try.prog W 0 (fun _ => true) true m 3 (List.take (Try.prog.cellsOf 3) [v0, v1, v2, v3, v4, v5]) = some y0 := hf 0 _ rfl
  rw [cInt, List.take_succ_cons, List.take_zero] at k0
  have k1 : DataW.trod enc Try.prog W 0 (fun _ => true) true m 3 (List.take (Try.prog.cellsOf 3) [v1, v2, v3, v4, v5]) = some y1 := hf 1 _ rfl
  rw [cInt, List.take_succ_cons, List.take_zero] at k1
  have k2 : DataW.trod enc Try.prog W 0 (fun _ => true) true m 3 (List.take (Try.prog.cellsOf 3) [v2, v3, v4, v5]) = some y2 := hf 2 _ rfl
  rw [cInt, List.take_succ_cons, List.take_zero] at k2
  have k3 : DataW.trod enc Try.prog W 0 (fun _ => true) true m 3 (List.take (Try.prog.cellsOf 3) [v3, v4, v5]) = some y3 := hf 3 _ rfl
  rw [cInt, List.take_succ_cons, List.take_zero] at k3
  have k4 : DataW.trod enc Try.prog W 0 (fun _ => true) true m 3 (List.take (Try.prog.cellsOf 3) [v4, v5]) = some y4 := hf 4 _ rfl
  rw [cInt, List.take_succ_cons, List.take_zero] at k4
  have k5 : DataW.trod enc Try.prog W 0 (fun _ => true) true m 3 (List.take (Try.prog.cellsOf 3) [v5]) = some y5 := hf 5 _ rfl
  rw [cInt, List.take_succ_cons, List.take_zero] at k5
  clear hf h hl hcs
  obtain ⟨c0, e0, _, u0⟩ := DataW.trod_int Try.underlying3 k0
  obtain ⟨c1, e1, _, u1⟩ := DataW.trod_int Try.underlying3 k1
  obtain ⟨c2, e2, _, u2⟩ := DataW.trod_int Try.underlying3 k2
  obtain ⟨c3, e3, _, u3⟩ := DataW.trod_int Try.underlying3 k3
  obtain ⟨c4, e4, _, u4⟩ := DataW.trod_int Try.underlying3 k4
  obtain ⟨c5, e5, _, u5⟩ := DataW.trod_int Try.underlying3 k5
  simp only [List.cons.injEq, and_true] at e0 e1 e2 e3 e4 e5
  subst e0 e1 e2 e3 e4 e5
  exact ⟨⟨c0, c1, c2, c3, c4, c5⟩, ⟨i64_range u0, i64_range u1, i64_range u2, i64_range u3, i64_range u4, i64_range u5⟩, rfl⟩
set_option maxRecDepth 100000 in
theorem open_size {H : Type} {enc : TypeId × Value → H} {W : World} {base : Nat} {v : Value} {d : DataW H} {ps : List MemPlace} (hv : Value.okWide Try.prog W .any base 23 v)
    (h : DataW.Trod enc Try.prog W 0 (fun _ => true) true 23 v d ps) : ∃ z : Sz, v = z.val ∧ z.ok := by
  have hs := okWide_struct Try.underlying23 hv
  rw [cSize] at hs
  obtain ⟨cs, rfl, hcs⟩ := hs
  obtain ⟨n, h⟩ := h
  obtain ⟨l⟩ := cs
  have h' : DataW.trod enc Try.prog W 0 (fun _ => true) true n 23 l = some (d, ps) := by simpa [Value.cells] using h
  obtain ⟨x, hx, rfl⟩ := open_cellsS (by simpa using hcs) h'
  exact ⟨x, rfl, hx⟩
end Go.Proofs.Ytfbcaicfppommaa
