/-
  What the three rows share: what the listed variables give, an entry as it is handed over, and a world that holds them.
-/
import Derived.Test.YtengpehiknoheaaDoorERow
import Derived.Test.YtengpehiknoheaaDoorRows
import Derived.ProofKit
import Derived.LaidMore
import Derived.OpenShut
import Derived.Stop.Joined
import Derived.Stop.LaidErr
import Derived.Deep.DeepHandedRow
import Derived.Deep.DeepWitnessRowRef
import Derived.Lib.LaidTab
namespace Go.Proofs.YtengpehiknoheaaDoor
open Go.ChangeShapes Go.WideShapes Go.ChangeAt Go.RowKit

theorem own : ownKnob Tryd.prog.godebug = none := by kernel_rfl
theorem laidOut : laidOutB Tryd.prog = true := by kernel_rfl
theorem gTab : Tryd.prog.globalNamed "internal/strconv.uint64pow10" = some 0 := by kernel_rfl
theorem tTab : (Tryd.prog.globals[0]?).map (·.type) = some 108 := by kernel_rfl
theorem cTab : Tryd.prog.cellsOf 108 = 20 := by kernel_rfl
theorem cU64 : Tryd.prog.cellsOf 23 = 1 := by kernel_rfl

theorem vars_of {W : World} (h : laidMetH Tryd.prog Rows.entryTellsRow.laid W) : Vars W := by
  rw [MakeChecks.laidMetH_plain _ _ _ (by kernel_rfl)] at h
  exact ⟨Lib.tabIs_of_head (zs := Lib.pow10Tab) gTab tTab Tryd.underlying108 Tryd.underlying23 cU64 cTab h.tail.tail⟩

theorem cEnt : Tryd.prog.cellsOf 26 = 13 := by kernel_rfl
theorem cI64 : Tryd.prog.cellsOf 2 = 1 := by kernel_rfl
theorem cU8 : Tryd.prog.cellsOf 5 = 1 := by kernel_rfl
theorem cInt : Tryd.prog.cellsOf 3 = 1 := by kernel_rfl
theorem cBool : Tryd.prog.cellsOf 4 = 1 := by kernel_rfl
theorem cErr : Tryd.prog.cellsOf 22 = 1 := by kernel_rfl
theorem cSet : Tryd.prog.cellsOf 24 = 1 := by kernel_rfl
theorem u8_range {z : Int} (h : (Lit.int .u8 z).wf = true) : 0 ≤ z ∧ z < 256 := by
  simp only [Lit.wf, Bool.and_eq_true, decide_eq_true_eq] at h
  have e1 : IntKind.min .u8 = 0 := by decide
  have e2 : IntKind.max .u8 = 255 := by decide
  omega
theorem u64_range {z : Int} (h : (Lit.int .u64 z).wf = true) : 0 ≤ z ∧ z < 18446744073709551616 := by
  simp only [Lit.wf, Bool.and_eq_true, decide_eq_true_eq] at h
  have e1 : IntKind.min .u64 = 0 := by decide
  have e2 : IntKind.max .u64 = 18446744073709551615 := by decide
  omega
theorem i64_range {z : Int} (h : (Lit.int .i64 z).wf = true) : I64b z := by
  simp only [Lit.wf, Bool.and_eq_true, decide_eq_true_eq] at h
  have e1 : IntKind.min .i64 = -9223372036854775808 := by decide
  have e2 : IntKind.max .i64 = 9223372036854775807 := by decide
  exact ⟨by omega, by omega⟩
theorem thirteen {α : Type} {l : List α} (h : l.length = 13) : ∃ v0 v1 v2 v3 v4 v5 v6 v7 v8 v9 v10 v11 v12, l = [v0, v1, v2, v3, v4, v5, v6, v7, v8, v9, v10, v11, v12] := by
  match l, h with
  | [v0, v1, v2, v3, v4, v5, v6, v7, v8, v9, v10, v11, v12], _ => exact ⟨v0, v1, v2, v3, v4, v5, v6, v7, v8, v9, v10, v11, v12, rfl⟩
set_option maxRecDepth 100000 in
/-- An entry that is handed over is one. -/
theorem open_cellsE {H : Type} {enc : TypeId × Value → H} {W : World} {n : Nat} {cs : List Value} {x : DataW H × List MemPlace} (hcs : cs.length = 13)
    (h : DataW.trod enc Tryd.prog W 0 (fun _ => true) true n 26 cs = some x) : ∃ x : En, x.ok ∧ cs = [.int .i64 x.a, .int .u8 (x.k : Int), .int .i64 x.w, .int .i64 x.t, .int .i64 x.p, .int .i64 x.c, .int .i64 x.b, .int .i64 x.q, .int .i64 x.v, .int .i64 x.u, .bool x.o, .int .i64 x.e, .int .u64 (x.s : Int)] := by
  have hs := DataW.trod_struct Tryd.underlying26 h
  rw [cEnt] at hs
  obtain ⟨xs, m, _, _, _, hl, hf⟩ := hs
  obtain ⟨v0, v1, v2, v3, v4, v5, v6, v7, v8, v9, v10, v11, v12, rfl⟩ := thirteen hcs
  obtain ⟨y0, y1, y2, y3, y4, y5, y6, y7, y8, y9, y10, y11, y12, rfl⟩ := thirteen (show xs.length = 13 from hl)
  have k0 : DataW.trod enc Tryd.prog W 0 (fun _ => true) true m 2 (List.take (Tryd.prog.cellsOf 2) [v0, v1, v2, v3, v4, v5, v6, v7, v8, v9, v10, v11, v12]) = some y0 := hf 0 _ rfl
  rw [cI64, List.take_succ_cons, List.take_zero] at k0
  have k1 : DataW.trod enc Tryd.prog W 0 (fun _ => true) true m 5 (List.take (Tryd.prog.cellsOf 5) [v1, v2, v3, v4, v5, v6, v7, v8, v9, v10, v11, v12]) = some y1 := hf 1 _ rfl
  rw [cU8, List.take_succ_cons, List.take_zero] at k1
  have k2 : DataW.trod enc Tryd.prog W 0 (fun _ => true) true m 3 (List.take (Tryd.prog.cellsOf 3) [v2, v3, v4, v5, v6, v7, v8, v9, v10, v11, v12]) = some y2 := hf 2 _ rfl
  rw [cInt, List.take_succ_cons, List.take_zero] at k2
  have k3 : DataW.trod enc Tryd.prog W 0 (fun _ => true) true m 3 (List.take (Tryd.prog.cellsOf 3) [v3, v4, v5, v6, v7, v8, v9, v10, v11, v12]) = some y3 := hf 3 _ rfl
  rw [cInt, List.take_succ_cons, List.take_zero] at k3
  have k4 : DataW.trod enc Tryd.prog W 0 (fun _ => true) true m 3 (List.take (Tryd.prog.cellsOf 3) [v4, v5, v6, v7, v8, v9, v10, v11, v12]) = some y4 := hf 4 _ rfl
  rw [cInt, List.take_succ_cons, List.take_zero] at k4
  have k5 : DataW.trod enc Tryd.prog W 0 (fun _ => true) true m 3 (List.take (Tryd.prog.cellsOf 3) [v5, v6, v7, v8, v9, v10, v11, v12]) = some y5 := hf 5 _ rfl
  rw [cInt, List.take_succ_cons, List.take_zero] at k5
  have k6 : DataW.trod enc Tryd.prog W 0 (fun _ => true) true m 3 (List.take (Tryd.prog.cellsOf 3) [v6, v7, v8, v9, v10, v11, v12]) = some y6 := hf 6 _ rfl
  rw [cInt, List.take_succ_cons, List.take_zero] at k6
  have k7 : DataW.trod enc Tryd.prog W 0 (fun _ => true) true m 3 (List.take (Tryd.prog.cellsOf 3) [v7, v8, v9, v10, v11, v12]) = some y7 := hf 7 _ rfl
  rw [cInt, List.take_succ_cons, List.take_zero] at k7
  have k8 : DataW.trod enc Tryd.prog W 0 (fun _ => true) true m 2 (List.take (Tryd.prog.cellsOf 2) [v8, v9, v10, v11, v12]) = some y8 := hf 8 _ rfl
  rw [cI64, List.take_succ_cons, List.take_zero] at k8
  have k9 : DataW.trod enc Tryd.prog W 0 (fun _ => true) true m 2 (List.take (Tryd.prog.cellsOf 2) [v9, v10, v11, v12]) = some y9 := hf 9 _ rfl
  rw [cI64, List.take_succ_cons, List.take_zero] at k9
  have k10 : DataW.trod enc Tryd.prog W 0 (fun _ => true) true m 4 (List.take (Tryd.prog.cellsOf 4) [v10, v11, v12]) = some y10 := hf 10 _ rfl
  rw [cBool, List.take_succ_cons, List.take_zero] at k10
  have k11 : DataW.trod enc Tryd.prog W 0 (fun _ => true) true m 22 (List.take (Tryd.prog.cellsOf 22) [v11, v12]) = some y11 := hf 11 _ rfl
  rw [cErr, List.take_succ_cons, List.take_zero] at k11
  have k12 : DataW.trod enc Tryd.prog W 0 (fun _ => true) true m 24 (List.take (Tryd.prog.cellsOf 24) [v12]) = some y12 := hf 12 _ rfl
  rw [cSet, List.take_succ_cons, List.take_zero] at k12
  clear hf h hl hcs
  obtain ⟨c0, e0, _, u0⟩ := DataW.trod_int Tryd.underlying2 k0
  obtain ⟨c1, e1, _, u1⟩ := DataW.trod_int Tryd.underlying5 k1
  obtain ⟨c2, e2, _, u2⟩ := DataW.trod_int Tryd.underlying3 k2
  obtain ⟨c3, e3, _, u3⟩ := DataW.trod_int Tryd.underlying3 k3
  obtain ⟨c4, e4, _, u4⟩ := DataW.trod_int Tryd.underlying3 k4
  obtain ⟨c5, e5, _, u5⟩ := DataW.trod_int Tryd.underlying3 k5
  obtain ⟨c6, e6, _, u6⟩ := DataW.trod_int Tryd.underlying3 k6
  obtain ⟨c7, e7, _, u7⟩ := DataW.trod_int Tryd.underlying3 k7
  obtain ⟨c8, e8, _, u8⟩ := DataW.trod_int Tryd.underlying2 k8
  obtain ⟨c9, e9, _, u9⟩ := DataW.trod_int Tryd.underlying2 k9
  obtain ⟨c10, e10, _⟩ := DataW.trod_bool Tryd.underlying4 k10
  obtain ⟨c11, e11, _, u11⟩ := DataW.trod_int Tryd.underlying22 k11
  obtain ⟨c12, e12, _, u12⟩ := DataW.trod_int Tryd.underlying24 k12
  simp only [List.cons.injEq, and_true] at e0 e1 e2 e3 e4 e5 e6 e7 e8 e9 e10 e11 e12
  subst e0 e1 e2 e3 e4 e5 e6 e7 e8 e9 e10 e11 e12
  have r0 := i64_range u0
  have r1 := u8_range u1
  have r2 := i64_range u2
  have r3 := i64_range u3
  have r4 := i64_range u4
  have r5 := i64_range u5
  have r6 := i64_range u6
  have r7 := i64_range u7
  have r8 := i64_range u8
  have r9 := i64_range u9
  have r11 := i64_range u11
  have r12 := u64_range u12
  refine ⟨⟨c0, c1.toNat, c2, c3, c4, c5, c6, c7, c8, c9, c10, c11, c12.toNat⟩, ⟨r0, by simp only; omega, r2, r3, r4, r5, r6, r7, r8, r9, r11, by simp only; omega⟩, ?_⟩
  simp only
  rw [Int.toNat_of_nonneg r1.1, Int.toNat_of_nonneg r12.1]
set_option maxRecDepth 100000 in
theorem open_en {H : Type} {enc : TypeId × Value → H} {W : World} {base : Nat} {v : Value} {d : DataW H} {ps : List MemPlace} (hv : Value.okWide Tryd.prog W .any base 26 v)
    (h : DataW.Trod enc Tryd.prog W 0 (fun _ => true) true 26 v d ps) : ∃ x : En, v = x.val ∧ x.ok := by
  have hs := okWide_struct Tryd.underlying26 hv
  rw [cEnt] at hs
  obtain ⟨cs, rfl, hcs⟩ := hs
  obtain ⟨n, h⟩ := h
  obtain ⟨l⟩ := cs
  have h' : DataW.trod enc Tryd.prog W 0 (fun _ => true) true n 26 l = some (d, ps) := by simpa [Value.cells] using h
  obtain ⟨x, hx, rfl⟩ := open_cellsE (by simpa using hcs) h'
  exact ⟨x, rfl, hx⟩
set_option maxRecDepth 100000 in
/-- A world that holds what is listed: the heap that the program's own start leaves. -/
theorem door_met (os : Os) (args : Array Value) : laidMetH Tryd.prog Rows.entryTellsRow.laid ((World.doorLaid Tryd.prog 24 os).forCall (fun _ _ => 0) ⟨#[], args, []⟩).memory :=
  laidMetH_of_parts3 (fuel := 8) (laidMet_of_run' 8 (by kernel_rfl) (by kernel_rfl)) (by kernel_rfl) (by kernel_rfl)
theorem enRow_of_in {w : World} {a : Option Addr} {len cap : Nat} (h : len = 0 ∨ ∃ (b off : Nat) (f : Nat → Int × Int × Int × Int × Int × Int × Int × Int × Int × Int × Bool × Int × Int), a = some ⟨b, off, none⟩ ∧ b < w.heap.size ∧ ∀ j, j < len → w.cell? ⟨b, off + j * 13, none⟩ = some (.int .i64 (f j).1) ∧ w.cell? ⟨b, off + j * 13 + 1, none⟩ = some (.int .u8 (f j).2.1) ∧ w.cell? ⟨b, off + j * 13 + 2, none⟩ = some (.int .i64 (f j).2.2.1) ∧ w.cell? ⟨b, off + j * 13 + 3, none⟩ = some (.int .i64 (f j).2.2.2.1) ∧ w.cell? ⟨b, off + j * 13 + 4, none⟩ = some (.int .i64 (f j).2.2.2.2.1) ∧ w.cell? ⟨b, off + j * 13 + 5, none⟩ = some (.int .i64 (f j).2.2.2.2.2.1) ∧ w.cell? ⟨b, off + j * 13 + 6, none⟩ = some (.int .i64 (f j).2.2.2.2.2.2.1) ∧ w.cell? ⟨b, off + j * 13 + 7, none⟩ = some (.int .i64 (f j).2.2.2.2.2.2.2.1) ∧ w.cell? ⟨b, off + j * 13 + 8, none⟩ = some (.int .i64 (f j).2.2.2.2.2.2.2.2.1) ∧ w.cell? ⟨b, off + j * 13 + 9, none⟩ = some (.int .i64 (f j).2.2.2.2.2.2.2.2.2.1) ∧ w.cell? ⟨b, off + j * 13 + 10, none⟩ = some (.bool (f j).2.2.2.2.2.2.2.2.2.2.1) ∧ w.cell? ⟨b, off + j * 13 + 11, none⟩ = some (.int .i64 (f j).2.2.2.2.2.2.2.2.2.2.2.1) ∧ w.cell? ⟨b, off + j * 13 + 12, none⟩ = some (.int .u64 (f j).2.2.2.2.2.2.2.2.2.2.2.2) ∧ (Lit.int .i64 (f j).1).wf = true ∧ (Lit.int .u8 (f j).2.1).wf = true ∧ (Lit.int .i64 (f j).2.2.1).wf = true ∧ (Lit.int .i64 (f j).2.2.2.1).wf = true ∧ (Lit.int .i64 (f j).2.2.2.2.1).wf = true ∧ (Lit.int .i64 (f j).2.2.2.2.2.1).wf = true ∧ (Lit.int .i64 (f j).2.2.2.2.2.2.1).wf = true ∧ (Lit.int .i64 (f j).2.2.2.2.2.2.2.1).wf = true ∧ (Lit.int .i64 (f j).2.2.2.2.2.2.2.2.1).wf = true ∧ (Lit.int .i64 (f j).2.2.2.2.2.2.2.2.2.1).wf = true ∧ True ∧ (Lit.int .i64 (f j).2.2.2.2.2.2.2.2.2.2.2.1).wf = true ∧ (Lit.int .u64 (f j).2.2.2.2.2.2.2.2.2.2.2.2).wf = true) :
    ∃ l : List En, EnRow w (.slice a len cap) l ∧ l.length = len ∧ ∀ x ∈ l, x.ok := by
  rcases h with rfl | ⟨b, off, f, rfl, hb, hf⟩
  · exact ⟨[], ⟨_, _, rfl, .inl rfl⟩, rfl, fun x hx => by cases hx⟩
  · refine ⟨(List.range len).map fun j => (⟨(f j).1, (f j).2.1.toNat, (f j).2.2.1, (f j).2.2.2.1, (f j).2.2.2.2.1, (f j).2.2.2.2.2.1, (f j).2.2.2.2.2.2.1, (f j).2.2.2.2.2.2.2.1, (f j).2.2.2.2.2.2.2.2.1, (f j).2.2.2.2.2.2.2.2.2.1, (f j).2.2.2.2.2.2.2.2.2.2.1, (f j).2.2.2.2.2.2.2.2.2.2.2.1, (f j).2.2.2.2.2.2.2.2.2.2.2.2.toNat⟩ : En), ⟨some ⟨b, off, none⟩, cap, by simp, .inr ⟨b, off, rfl, hb, ?_⟩⟩, by simp, ?_⟩
    · intro k x hk i u hi
      have hlt : k < len := by have := (List.getElem?_eq_some_iff.1 hk).1; simpa using this
      rw [List.getElem?_map, List.getElem?_range hlt, Option.map_some, Option.some.injEq] at hk
      subst hk
      obtain ⟨c0, c1, c2, c3, c4, c5, c6, c7, c8, c9, c10, c11, c12, w0, w1, w2, w3, w4, w5, w6, w7, w8, w9, w10, w11, w12⟩ := hf k hlt
      have r1 := u8_range w1
      have r12 := u64_range w12
      have hi13 : i < 13 := by have := (List.getElem?_eq_some_iff.1 hi).1; rwa [en_len] at this
      have g1 : (((f k).2.1.toNat : Nat) : Int) = (f k).2.1 := Int.toNat_of_nonneg r1.1
      have g12 : (((f k).2.2.2.2.2.2.2.2.2.2.2.2.toNat : Nat) : Int) = (f k).2.2.2.2.2.2.2.2.2.2.2.2 := Int.toNat_of_nonneg r12.1
      rcases lt13 hi13 with rfl | rfl | rfl | rfl | rfl | rfl | rfl | rfl | rfl | rfl | rfl | rfl | rfl
      all_goals
        simp only [En.cellsL, List.getElem?_cons_zero, List.getElem?_cons_succ, Option.some.injEq, g1, g12] at hi
        subst hi
        assumption
    · intro x hx
      obtain ⟨j, hj, rfl⟩ := List.mem_map.1 hx
      obtain ⟨c0, c1, c2, c3, c4, c5, c6, c7, c8, c9, c10, c11, c12, w0, w1, w2, w3, w4, w5, w6, w7, w8, w9, w10, w11, w12⟩ := hf j (by simpa using hj)
      have r1 := u8_range w1
      have r12 := u64_range w12
      exact ⟨i64_range w0, by simp only; omega, i64_range w2, i64_range w3, i64_range w4, i64_range w5, i64_range w6, i64_range w7, i64_range w8, i64_range w9, i64_range w11, by simp only; omega⟩
end Go.Proofs.YtengpehiknoheaaDoor
