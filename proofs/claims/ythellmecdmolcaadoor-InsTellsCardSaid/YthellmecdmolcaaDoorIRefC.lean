/-
  The walks of the document's words, and of its line.
-/
import Derived.Test.YthellmecdmolcaaDoorIRefA
namespace Go.Proofs.YthellmecdmolcaaDoor
open Go.RowKit Go.Shelf

attribute [local go_sem] Oper.semAt_some

/-- Block B is the words. -/
def WordsAt (W : World) (B : Nat) : Prop := W.heap[B]? = some (.cells #[.string ⟨#[]⟩, .string ⟨#[115, 101, 116]⟩, .string ⟨#[97, 100, 100]⟩, .string ⟨#[106, 117, 109, 112]⟩, .string ⟨#[122, 101, 114, 111]⟩, .string ⟨#[115, 101, 110, 100]⟩, .string ⟨#[114, 101, 99, 118]⟩,
  .string ⟨#[99, 108, 111, 115, 101]⟩, .string ⟨#[115, 101, 108, 101, 99, 116]⟩, .string ⟨#[115, 112, 97, 119, 110]⟩, .string ⟨#[101, 110, 100]⟩] 9 (0, 0))
section
variable {W W' : World} {B : Nat}
theorem WordsAt.lt (h : WordsAt W B) : B < W.heap.size := (Array.getElem?_eq_some_iff.1 h).1
theorem WordsAt.of_block (h : WordsAt W B) (hb : W'.heap[B]? = W.heap[B]?) : WordsAt W' B := hb.trans h
theorem WordsAt.cell (h : WordsAt W B) (k : Nat) (hk : k ≤ 10) : W.cell? ⟨B, k, none⟩ = some (.string ⟨(wordL k).toArray⟩) := by
  rcases (by omega : k = 0 ∨ k = 1 ∨ k = 2 ∨ k = 3 ∨ k = 4 ∨ k = 5 ∨ k = 6 ∨ k = 7 ∨ k = 8 ∨ k = 9 ∨ k = 10) with rfl | rfl | rfl | rfl | rfl | rfl | rfl | rfl | rfl | rfl | rfl
  all_goals simp [World.cell?, show W.heap[B]? = _ from h, wordL]
end
theorem words_any (w : World) :
    Calls Tryd.prog 20 #[] w fun e w' => e = .returned (.slice (some ⟨w.heap.size, 0, none⟩) 11 11) ∧ WordsAt w' w.heap.size ∧ But [] w w' := by
  go_enter Tryd.func20, Tryd.ntmps20
  go_wp2_with fail
  go_ret
  exact ⟨rfl, World.alloc_heap_new w _, (But.refl [] w).alloc _⟩
end Go.Proofs.YthellmecdmolcaaDoor
