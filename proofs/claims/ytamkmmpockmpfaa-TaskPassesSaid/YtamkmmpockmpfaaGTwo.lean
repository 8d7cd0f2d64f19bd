/-
  A struct of two cells that lies in a block.
-/
import Derived.Test.YtamkmmpockmpfaaGKind
namespace Go.Proofs.Ytamkmmpockmpfaa
open Go.RowKit Go.Maps

theorem heap_set_same {W : World} {B k : Nat} {cs : Array Value} {t : TypeId} {z : Nat × Nat} (v : Value) (h : W.heap[B]? = some (.cells cs t z)) : (W.setCell ⟨B, k, none⟩ v).heap[B]? = some (.cells (cs.setIfInBounds k v) t z) := by
  obtain ⟨hlt, hk⟩ := Array.getElem?_eq_some_iff.1 h
  show (W.heap.modify B _)[B]? = _
  rw [Array.getElem?_eq_getElem (by rw [Array.size_modify]; exact hlt), Array.getElem_modify_self, hk]
  rfl
/-- Block B is a variable of two cells. -/
def Two (W : World) (B : Nat) (t : TypeId) (x y : Value) : Prop := W.heap[B]? = some (.cells #[x, y] t (0, 0))
section
variable {W W' : World} {B : Nat} {t : TypeId} {x y : Value}
theorem Two.lt (h : Two W B t x y) : B < W.heap.size := (Array.getElem?_eq_some_iff.1 h).1
theorem Two.c0 (h : Two W B t x y) : W.cell? ⟨B, 0, none⟩ = some x := by simp [World.cell?, show W.heap[B]? = _ from h]
theorem Two.c1 (h : Two W B t x y) : W.cell? ⟨B, 1, none⟩ = some y := by simp [World.cell?, show W.heap[B]? = _ from h]
theorem Two.frozen (h : Two W B t x y) (k : Nat) : W.frozen? ⟨B, k, none⟩ = false := by simp [World.frozen?, show W.heap[B]? = _ from h]
theorem Two.of_block (h : Two W B t x y) (hb : W'.heap[B]? = W.heap[B]?) : Two W' B t x y := hb.trans h
theorem Two.alloc (h : Two W B t x y) (o : Obj) : Two (W.alloc o) B t x y := h.of_block ((World.grownBy_alloc W o none).block B h.lt (by simp))
theorem Two.set (h : Two W B t x y) (a b : Value) : Two ((W.setCell ⟨B, 0, none⟩ a).setCell ⟨B, 1, none⟩ b) B t a b := by
  have h1 := heap_set_same (k := 0) a h
  have h2 := heap_set_same (k := 1) b h1
  simpa [Two] using h2
theorem two_new (W : World) (t : TypeId) (x y : Value) : Two (W.alloc (.cells #[x, y] t)) W.heap.size t x y := World.alloc_heap_new W _
end
end Go.Proofs.Ytamkmmpockmpfaa
