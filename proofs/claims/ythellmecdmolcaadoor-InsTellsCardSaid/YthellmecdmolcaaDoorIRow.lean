/-
  What the three rows share: what the listed variables give, an instruction as it is handed over, and a world that holds them.
-/
import Derived.Test.YthellmecdmolcaaDoorIKind
import Derived.Test.YthellmecdmolcaaDoorRows
import Derived.ProofKit
import Derived.LaidMore
import Derived.OpenShut
import Derived.Stop.Joined
import Derived.Stop.LaidErr
import Derived.Deep.DeepHandedRow
import Derived.Deep.DeepWitnessRowRef
import Derived.Lib.LaidTab
namespace Go.Proofs.YthellmecdmolcaaDoor
open Go.ChangeShapes Go.WideShapes Go.ChangeAt Go.RowKit

theorem own : ownKnob Tryd.prog.godebug = none := by kernel_rfl
theorem laidOut : laidOutB Tryd.prog = true := by kernel_rfl
theorem gTab : Tryd.prog.globalNamed "internal/strconv.uint64pow10" = some 0 := by kernel_rfl
theorem gRange : Tryd.prog.globalNamed "strconv.ErrRange" = some 3 := by kernel_rfl
theorem gSyntax : Tryd.prog.globalNamed "strconv.ErrSyntax" = some 2 := by kernel_rfl
theorem tTab : (Tryd.prog.globals[0]?).map (·.type) = some 90 := by kernel_rfl
theorem tRange : (Tryd.prog.globals[3]?).map (·.type) = some 59 := by kernel_rfl
theorem tSyntax : (Tryd.prog.globals[2]?).map (·.type) = some 59 := by kernel_rfl
theorem cTab : Tryd.prog.cellsOf 90 = 20 := by kernel_rfl
theorem cU64 : Tryd.prog.cellsOf 73 = 1 := by kernel_rfl
theorem cStr : Tryd.prog.cellsOf 9 = 1 := by kernel_rfl
theorem cErr : Tryd.prog.cellsOf 107 = 1 := by kernel_rfl
theorem starE : "*" ++ "errors.errorString" = "*errors.errorString" := by decide
theorem rowE (u : TypeId) (h : Tryd.prog.typeName? 3 u = some "*errors.errorString") : u = 105 :=
  typeName_ptr_named (nm := "errors.errorString") (by rw [starE]; kernel_rfl) (by kernel_rfl) (by decide) u (by rw [starE]; exact h)

theorem vars_of {W : World} (h : laidMetH Tryd.prog Rows.insTellsRow.laid W) : Vars W := by
  rw [MakeChecks.laidMetH_plain _ _ _ (by kernel_rfl)] at h
  have h3 := h.tail.tail
  have h4 := h3.tail
  have h5 := h4.tail
  obtain ⟨a, s, hv, _⟩ := laid_sentinel h4 gRange tRange Tryd.underlying59 rowE Tryd.underlying105 Tryd.underlying107 rfl rfl Tryd.underlying9 cErr cStr
  obtain ⟨a', s', hv', _⟩ := laid_sentinel h5 gSyntax tSyntax Tryd.underlying59 rowE Tryd.underlying105 Tryd.underlying107 rfl rfl Tryd.underlying9 cErr cStr
  exact ⟨Lib.tabIs_of_head (zs := Lib.pow10Tab) gTab tTab Tryd.underlying90 Tryd.underlying73 cU64 cTab h3,
    ⟨_, by simpa using World.var?_cell gSyntax hv' 0, .inr ⟨_, _, rfl⟩⟩, ⟨_, by simpa using World.var?_cell gRange hv 0, .inr ⟨_, _, rfl⟩⟩⟩

theorem cIns : Tryd.prog.cellsOf 23 = 5 := by kernel_rfl
theorem cInt : Tryd.prog.cellsOf 3 = 1 := by kernel_rfl
theorem cI64 : Tryd.prog.cellsOf 2 = 1 := by kernel_rfl
theorem cU8 : Tryd.prog.cellsOf 5 = 1 := by kernel_rfl

theorem u8_range {z : Int} (h : (Lit.int .u8 z).wf = true) : 0 ≤ z ∧ z < 256 := by
  simp only [Lit.wf, Bool.and_eq_true, decide_eq_true_eq] at h
  have e1 : IntKind.min .u8 = 0 := by decide
  have e2 : IntKind.max .u8 = 255 := by decide
  omega
theorem i64_range {z : Int} (h : (Lit.int .i64 z).wf = true) : I64b z := by
  simp only [Lit.wf, Bool.and_eq_true, decide_eq_true_eq] at h
  have e1 : IntKind.min .i64 = -9223372036854775808 := by decide
  have e2 : IntKind.max .i64 = 9223372036854775807 := by decide
  exact ⟨by omega, by omega⟩
theorem five {α : Type} {l : List α} (h : l.length = 5) : ∃ a b c d e, l = [a, b, c, d, e] := by
  match l, h with
  | [a, b, c, d, e], _ => exact ⟨a, b, c, d, e, rfl⟩
/-- An instruction that is handed over is one. -/
theorem open_cells {H : Type} {enc : TypeId × Value → H} {W : World} {n : Nat} {cs : List Value} {x : DataW H × List MemPlace} (hcs : cs.length = 5)
    (h : DataW.trod enc Tryd.prog W 0 (fun _ => true) true n 23 cs = some x) : ∃ x : In, x.ok ∧ cs = [.int .u8 (x.o : Int), .int .i64 x.a, .int .i64 x.b, .int .i64 x.c, .int .i64 x.k] := by
  have hs := DataW.trod_struct Tryd.underlying23 h
  rw [cIns] at hs
  obtain ⟨xs, m, _, _, _, hl, hf⟩ := hs
  obtain ⟨v0, v1, v2, v3, v4, rfl⟩ := five hcs
  obtain ⟨y0, y1, y2, y3, y4, rfl⟩ := five (show xs.length = 5 from hl)
  have k0 : DataW.trod enc Tryd.prog W 0 (fun _ => true) true m 5 (List.take (Tryd.prog.cellsOf 5) [v0, v1, v2, v3, v4]) = some y0 := hf 0 _ rfl
  rw [cU8, List.take_succ_cons, List.take_zero] at k0
  have k1 : DataW.trod enc Tryd.prog W 0 (fun _ => true) true m 3 (List.take (Tryd.prog.cellsOf 3) [v1, v2, v3, v4]) = some y1 := hf 1 _ rfl
  rw [cInt, List.take_succ_cons, List.take_zero] at k1
  have k2 : DataW.trod enc Tryd.prog W 0 (fun _ => true) true m 3 (List.take (Tryd.prog.cellsOf 3) [v2, v3, v4]) = some y2 := hf 2 _ rfl
  rw [cInt, List.take_succ_cons, List.take_zero] at k2
  have k3 : DataW.trod enc Tryd.prog W 0 (fun _ => true) true m 3 (List.take (Tryd.prog.cellsOf 3) [v3, v4]) = some y3 := hf 3 _ rfl
  rw [cInt, List.take_succ_cons, List.take_zero] at k3
  have k4 : DataW.trod enc Tryd.prog W 0 (fun _ => true) true m 2 (List.take (Tryd.prog.cellsOf 2) [v4]) = some y4 := hf 4 _ rfl
  rw [cI64, List.take_succ_cons, List.take_zero] at k4
  clear hf h hl hcs
  obtain ⟨c0, e0, _, u0⟩ := DataW.trod_int Tryd.underlying5 k0
  obtain ⟨c1, e1, _, u1⟩ := DataW.trod_int Tryd.underlying3 k1
  obtain ⟨c2, e2, _, u2⟩ := DataW.trod_int Tryd.underlying3 k2
  obtain ⟨c3, e3, _, u3⟩ := DataW.trod_int Tryd.underlying3 k3
  obtain ⟨c4, e4, _, u4⟩ := DataW.trod_int Tryd.underlying2 k4
  simp only [List.cons.injEq, and_true] at e0 e1 e2 e3 e4
  subst e0 e1 e2 e3 e4
  have r0 := u8_range u0
  have r1 := i64_range u1
  have r2 := i64_range u2
  have r3 := i64_range u3
  have r4 := i64_range u4
  refine ⟨⟨c0.toNat, c1, c2, c3, c4⟩, ⟨by simp only; omega, r1, r2, r3, r4⟩, ?_⟩
  simp only
  rw [Int.toNat_of_nonneg r0.1]
set_option maxRecDepth 100000 in
theorem open_ins {H : Type} {enc : TypeId × Value → H} {W : World} {base : Nat} {v : Value} {d : DataW H} {ps : List MemPlace} (hv : Value.okWide Tryd.prog W .any base 23 v)
    (h : DataW.Trod enc Tryd.prog W 0 (fun _ => true) true 23 v d ps) : ∃ x : In, x.ok ∧ v = x.val := by
  have hs := okWide_struct Tryd.underlying23 hv
  rw [cIns] at hs
  obtain ⟨cs, rfl, hcs⟩ := hs
  obtain ⟨n, h⟩ := h
  obtain ⟨l⟩ := cs
  have h' : DataW.trod enc Tryd.prog W 0 (fun _ => true) true n 23 l = some (d, ps) := by simpa [Value.cells] using h
  obtain ⟨x, hx, rfl⟩ := open_cells (by simpa using hcs) h'
  exact ⟨x, hx, rfl⟩
set_option maxRecDepth 100000 in
/-- A world that holds what is listed: the heap that the program's own start leaves. -/
theorem door_met (os : Os) (args : Array Value) : laidMetH Tryd.prog Rows.insTellsRow.laid ((World.doorLaid Tryd.prog 62 os).forCall (fun _ _ => 0) ⟨#[], args, []⟩).memory :=
  laidMetH_of_parts3 (fuel := 8) (laidMet_of_run' 8 (by kernel_rfl) (by kernel_rfl)) (by kernel_rfl) (by kernel_rfl)
end Go.Proofs.YthellmecdmolcaaDoor
