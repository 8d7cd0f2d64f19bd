/-
  A row of entries, as handed over.
-/
import Derived.Test.YtnngkpggejmdkaaERow
namespace Go.Proofs.Ytnngkpggejmdkaa
open Go.RowKit

theorem u8_range {z : Int} (h : (Lit.int .u8 z).wf = true) : 0 ≤ z ∧ z < 256 := by
  simp only [Lit.wf, Bool.and_eq_true, decide_eq_true_eq] at h
  have e1 : IntKind.min .u8 = 0 := by decide
  have e2 : IntKind.max .u8 = 255 := by decide
  omega
theorem u64_range {z : Int} (h : (Lit.int .u64 z).wf = true) : 0 ≤ z ∧ z < 18446744073709551616 := by
  simp only [Lit.wf, Bool.and_eq_true, decide_eq_true_eq] at h
  have e1 : IntKind.min .u64 = 0 := by decide
  have e2 : IntKind.max .u64 = 18446744073709551615 := by decide
  omega
theorem i64_range {z : Int} (h : (Lit.int .i64 z).wf = true) : I64b z := by
  simp only [Lit.wf, Bool.and_eq_true, decide_eq_true_eq] at h
  have e1 : IntKind.min .i64 = -9223372036854775808 := by decide
  have e2 : IntKind.max .i64 = 9223372036854775807 := by decide
  exact ⟨by omega, by omega⟩
theorem enRow_of_in {w : World} {a : Option Addr} {len cap : Nat} (h : len = 0 ∨ ∃ (b off : Nat) (f : Nat → Int × Int × Int × Int × Int × Int × Int × Int × Int × Int × Bool × Int × Int), a = some ⟨b, off, none⟩ ∧ b < w.heap.size ∧ ∀ j, j < len → w.cell? ⟨b, off + j * 13, none⟩ = some (.int .i64 (f j).1) ∧ w.cell? ⟨b, off + j * 13 + 1, none⟩ = some (.int .u8 (f j).2.1) ∧ w.cell? ⟨b, off + j * 13 + 2, none⟩ = some (.int .i64 (f j).2.2.1) ∧ w.cell? ⟨b, off + j * 13 + 3, none⟩ = some (.int .i64 (f j).2.2.2.1) ∧ w.cell? ⟨b, off + j * 13 + 4, none⟩ = some (.int .i64 (f j).2.2.2.2.1) ∧ w.cell? ⟨b, off + j * 13 + 5, none⟩ = some (.int .i64 (f j).2.2.2.2.2.1) ∧ w.cell? ⟨b, off + j * 13 + 6, none⟩ = some (.int .i64 (f j).2.2.2.2.2.2.1) ∧ w.cell? ⟨b, off + j * 13 + 7, none⟩ = some (.int .i64 (f j).2.2.2.2.2.2.2.1) ∧ w.cell? ⟨b, off + j * 13 + 8, none⟩ = some (.int .i64 (f j).2.2.2.2.2.2.2.2.1) ∧ w.cell? ⟨b, off + j * 13 + 9, none⟩ = some (.int .i64 (f j).2.2.2.2.2.2.2.2.2.1) ∧ w.cell? ⟨b, off + j * 13 + 10, none⟩ = some (.bool (f j).2.2.2.2.2.2.2.2.2.2.1) ∧ w.cell? ⟨b, off + j * 13 + 11, none⟩ = some (.int .i64 (f j).2.2.2.2.2.2.2.2.2.2.2.1) ∧ w.cell? ⟨b, off + j * 13 + 12, none⟩ = some (.int .u64 (f j).2.2.2.2.2.2.2.2.2.2.2.2) ∧ (Lit.int .i64 (f j).1).wf = true ∧ (Lit.int .u8 (f j).2.1).wf = true ∧ (Lit.int .i64 (f j).2.2.1).wf = true ∧ (Lit.int .i64 (f j).2.2.2.1).wf = true ∧ (Lit.int .i64 (f j).2.2.2.2.1).wf = true ∧ (Lit.int .i64 (f j).2.2.2.2.2.1).wf = true ∧ (Lit.int .i64 (f j).2.2.2.2.2.2.1).wf = true ∧ (Lit.int .i64 (f j).2.2.2.2.2.2.2.1).wf = true ∧ (Lit.int .i64 (f j).2.2.2.2.2.2.2.2.1).wf = true ∧ (Lit.int .i64 (f j).2.2.2.2.2.2.2.2.2.1).wf = true ∧ True ∧ (Lit.int .i64 (f j).2.2.2.2.2.2.2.2.2.2.2.1).wf = true ∧ (Lit.int .u64 (f j).2.2.2.2.2.2.2.2.2.2.2.2).wf = true) :
    ∃ l : List En, EnRow w (.slice a len cap) l ∧ l.length = len ∧ ∀ x ∈ l, x.ok := by
  rcases h with rfl | ⟨b, off, f, rfl, hb, hf⟩
  · exact ⟨[], ⟨_, _, rfl, .inl rfl⟩, rfl, fun x hx => by cases hx⟩
  · refine ⟨(List.range len).map fun j => (⟨(f j).1, (f j).2.1.toNat, (f j).2.2.1, (f j).2.2.2.1, (f j).2.2.2.2.1, (f j).2.2.2.2.2.1, (f j).2.2.2.2.2.2.1, (f j).2.2.2.2.2.2.2.1, (f j).2.2.2.2.2.2.2.2.1, (f j).2.2.2.2.2.2.2.2.2.1, (f j).2.2.2.2.2.2.2.2.2.2.1, (f j).2.2.2.2.2.2.2.2.2.2.2.1, (f j).2.2.2.2.2.2.2.2.2.2.2.2.toNat⟩ : En), ⟨some ⟨b, off, none⟩, cap, by simp, .inr ⟨b, off, rfl, hb, ?_⟩⟩, by simp, ?_⟩
    · intro k x hk i u hi
      have hlt : k < len := by have := (List.getElem?_eq_some_iff.1 hk).1; simpa using this
      rw [List.getElem?_map, List.getElem?_range hlt, Option.map_some, Option.some.injEq] at hk
      subst hk
      obtain ⟨c0, c1, c2, c3, c4, c5, c6, c7, c8, c9, c10, c11, c12, w0, w1, w2, w3, w4, w5, w6, w7, w8, w9, w10, w11, w12⟩ := hf k hlt
      have r1 := u8_range w1
      have r12 := u64_range w12
      have hi13 : i < 13 := by have := (List.getElem?_eq_some_iff.1 hi).1; rwa [en_len] at this
      have g1 : (((f k).2.1.toNat : Nat) : Int) = (f k).2.1 := Int.toNat_of_nonneg r1.1
      have g12 : (((f k).2.2.2.2.2.2.2.2.2.2.2.2.toNat : Nat) : Int) = (f k).2.2.2.2.2.2.2.2.2.2.2.2 := Int.toNat_of_nonneg r12.1
      rcases lt13 hi13 with rfl | rfl | rfl | rfl | rfl | rfl | rfl | rfl | rfl | rfl | rfl | rfl | rfl
      all_goals
        simp only [En.cellsL, List.getElem?_cons_zero, List.getElem?_cons_succ, Option.some.injEq, g1, g12] at hi
        subst hi
        assumption
    · intro x hx
      obtain ⟨j, hj, rfl⟩ := List.mem_map.1 hx
      obtain ⟨c0, c1, c2, c3, c4, c5, c6, c7, c8, c9, c10, c11, c12, w0, w1, w2, w3, w4, w5, w6, w7, w8, w9, w10, w11, w12⟩ := hf j (by simpa using hj)
      have r1 := u8_range w1
      have r12 := u64_range w12
      exact ⟨i64_range w0, by simp only; omega, i64_range w2, i64_range w3, i64_range w4, i64_range w5, i64_range w6, i64_range w7, i64_range w8, i64_range w9, i64_range w11, by simp only; omega⟩
end Go.Proofs.Ytnngkpggejmdkaa
