/-
  Rows of steps, and rows of ints, as they come in.
-/
import Derived.Test.YtkpnkhakjgfgfaaLAlive
namespace Go.Proofs.Ytkpnkhakjgfgfaa.Lq
open Go.RowKit

def StepAt (W : World) (b off j : Nat) (d : Int × Int) : Prop :=
  W.cell? ⟨b, off + j * 2, none⟩ = some (.int .i64 d.1) ∧ W.cell? ⟨b, off + j * 2 + 1, none⟩ = some (.int .i64 d.2) ∧ I64b d.1 ∧ I64b d.2
/-- The value v is a row of these steps. -/
def Steps (w : World) (v : Value) (ss : List (Int × Int)) : Prop :=
  (ss = [] ∧ ∃ a c, v = .slice a 0 c) ∨ ∃ b off c, v = .slice (some ⟨b, off, none⟩) ss.length c ∧ 0 < ss.length ∧ b < w.heap.size ∧ ∀ j, j < ss.length → StepAt w b off j (ss[j]?.getD (0, 0))
theorem Steps.slice {w : World} {v : Value} {ss : List (Int × Int)} (h : Steps w v ss) : ∃ a c, v = .slice a ss.length c := by
  rcases h with ⟨rfl, a, c, rfl⟩ | ⟨b, off, c, rfl, _⟩
  · exact ⟨a, c, rfl⟩
  · exact ⟨_, c, rfl⟩
theorem Steps.at {w W : World} {a : Option Addr} {n c : Nat} {ss : List (Int × Int)} (h : Steps w (.slice a n c) ss) (hb : Below w.heap.size w W) {k : Nat} (hk : k < ss.length) : ∃ b off d e, a = some ⟨b, off, none⟩ ∧ b < w.heap.size ∧ StepAt W b off k (d, e) := by
  rcases h with ⟨rfl, _⟩ | ⟨b, off, c', he, _, hlt, hc⟩
  · simp at hk
  · simp only [Value.slice.injEq] at he
    obtain ⟨rfl, -, -⟩ := he
    obtain ⟨h1, h2, h3, h4⟩ := hc k hk
    exact ⟨b, off, _, _, rfl, hlt, (hb.cell (p := ⟨b, off + k * 2, none⟩) hlt).trans h1, (hb.cell (p := ⟨b, off + k * 2 + 1, none⟩) hlt).trans h2, h3, h4⟩

/-- A row of ints, at one place. -/
theorem RowI.at {W : World} {a : Option Addr} {n c : Nat} {xs : List Int} (h : RowI W (.slice a n c) xs) {k : Nat} (hk : k < xs.length) : ∃ b off, a = some ⟨b, off, none⟩ ∧ b < W.heap.size ∧ W.cell? ⟨b, off + k, none⟩ = some (.int .i64 (xs[k]?.getD 0)) := by
  rcases h with ⟨rfl, _⟩ | ⟨b, off, c', he, _, hlt, hc⟩
  · simp at hk
  · simp only [Value.slice.injEq] at he
    obtain ⟨rfl, -, -⟩ := he
    exact ⟨b, off, rfl, hlt, hc k hk⟩
theorem RowI.slice {w : World} {v : Value} {xs : List Int} (h : RowI w v xs) : ∃ a c, v = .slice a xs.length c := by
  rcases h with ⟨rfl, a, c, rfl⟩ | ⟨b, off, c, rfl, _⟩
  · exact ⟨a, c, rfl⟩
  · exact ⟨_, c, rfl⟩
end Go.Proofs.Ytkpnkhakjgfgfaa.Lq
