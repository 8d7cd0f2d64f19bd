/-
  Rows of steps of two ints, as they come in; a few words on rows of ints.
-/
import Derived.Test.YtfdinodcbeipcaaZSame
import Derived.Test.YtfdinodcbeipcaaZAlive
namespace Go.Proofs.Ytfdinodcbeipcaa
open Go.RowKit

theorem I64_get {xs : List Int} {j : Nat} {u : Value} (h : (I64 xs)[j]? = some u) : j < xs.length := by
  have := (List.getElem?_eq_some_iff.mp h).1
  simpa [I64] using this
theorem I64_one {xs : List Int} : ∀ u ∈ I64 xs, u.oneCell' = true := by intro x hx; simp [I64] at hx; obtain ⟨y, _, rfl⟩ := hx; rfl
theorem add_off (b o j : Nat) : (⟨b, o, none⟩ : Addr).add j = ⟨b, o + j, none⟩ := by unfold Addr.add; split <;> simp_all

theorem below_next {w wx w1 : World} (h : Below w.heap.size w wx) (k : Below wx.heap.size wx w1) : Below w.heap.size w w1 := h.trans (k.mono h.size)

/-! ### Steps -/
def StepAt (W : World) (b off j : Nat) (d : Int × Int) : Prop :=
  W.cell? ⟨b, off + j * 2, none⟩ = some (.int .i64 d.1) ∧ W.cell? ⟨b, off + j * 2 + 1, none⟩ = some (.int .i64 d.2) ∧ I64b d.1 ∧ I64b d.2
/-- The value v is a row of these steps. -/
def Steps (w : World) (v : Value) (ss : List (Int × Int)) : Prop :=
  (ss = [] ∧ ∃ a c, v = .slice a 0 c) ∨ ∃ b off c, v = .slice (some ⟨b, off, none⟩) ss.length c ∧ 0 < ss.length ∧ b < w.heap.size ∧ ∀ j, j < ss.length → StepAt w b off j (ss[j]?.getD (0, 0))
theorem Steps.slice {w : World} {v : Value} {ss : List (Int × Int)} (h : Steps w v ss) : ∃ a c, v = .slice a ss.length c := by
  rcases h with ⟨rfl, a, c, rfl⟩ | ⟨b, off, c, rfl, _⟩
  · exact ⟨a, c, rfl⟩
  · exact ⟨_, c, rfl⟩
theorem Steps.at {w : World} {a : Option Addr} {n c : Nat} {ss : List (Int × Int)} (h : Steps w (.slice a n c) ss) {k : Nat} (hk : k < ss.length) : ∃ b off d e, a = some ⟨b, off, none⟩ ∧
    (∀ W, Below w.heap.size w W → W.cell? ⟨b, off + k * 2, none⟩ = some (.int .i64 d)) ∧ (∀ W, Below w.heap.size w W → W.cell? ⟨b, off + k * 2 + 1, none⟩ = some (.int .i64 e)) ∧ I64b d ∧ I64b e := by
  rcases h with ⟨rfl, _⟩ | ⟨b, off, c', he, _, hlt, hc⟩
  · simp at hk
  · simp only [Value.slice.injEq] at he
    obtain ⟨rfl, -, -⟩ := he
    obtain ⟨h1, h2, h3, h4⟩ := hc k hk
    exact ⟨b, off, _, _, rfl, fun W hb => (hb.cell (p := ⟨b, off + k * 2, none⟩) hlt).trans h1, fun W hb => (hb.cell (p := ⟨b, off + k * 2 + 1, none⟩) hlt).trans h2, h3, h4⟩
end Go.Proofs.Ytfdinodcbeipcaa
