/-
  What a kind names, in memory.
-/
import Derived.Deep.Cut
import Derived.Deep.CutRange
import Derived.Test.YtengpehiknoheaaDoorERefA
import Derived.Test.YtengpehiknoheaaDoorERefW
namespace Go.Proofs.YtengpehiknoheaaDoor
open Go.RowKit Go.Shelf

attribute [local go_sem] Oper.semAt_some

/-- Block B is what a kind names. -/
def NdAt (W : World) (B : Nat) (g0 g1 g2 g3 g4 g5 g6 g7 g8 g9 g10 : Bool) : Prop := W.heap[B]? = some (.cells #[.bool g0, .bool g1, .bool g2, .bool g3, .bool g4, .bool g5, .bool g6, .bool g7, .bool g8, .bool g9, .bool g10] 56 (0, 0))
section
variable {W W' : World} {B : Nat} {g0 g1 g2 g3 g4 g5 g6 g7 g8 g9 g10 : Bool}
theorem NdAt.lt (h : NdAt W B g0 g1 g2 g3 g4 g5 g6 g7 g8 g9 g10) : B < W.heap.size := (Array.getElem?_eq_some_iff.1 h).1
theorem NdAt.c0 (h : NdAt W B g0 g1 g2 g3 g4 g5 g6 g7 g8 g9 g10) : W.cell? ⟨B, 0, none⟩ = some (.bool g0) := by simp [World.cell?, show W.heap[B]? = _ from h]
theorem NdAt.c1 (h : NdAt W B g0 g1 g2 g3 g4 g5 g6 g7 g8 g9 g10) : W.cell? ⟨B, 1, none⟩ = some (.bool g1) := by simp [World.cell?, show W.heap[B]? = _ from h]
theorem NdAt.c2 (h : NdAt W B g0 g1 g2 g3 g4 g5 g6 g7 g8 g9 g10) : W.cell? ⟨B, 2, none⟩ = some (.bool g2) := by simp [World.cell?, show W.heap[B]? = _ from h]
theorem NdAt.c3 (h : NdAt W B g0 g1 g2 g3 g4 g5 g6 g7 g8 g9 g10) : W.cell? ⟨B, 3, none⟩ = some (.bool g3) := by simp [World.cell?, show W.heap[B]? = _ from h]
theorem NdAt.c4 (h : NdAt W B g0 g1 g2 g3 g4 g5 g6 g7 g8 g9 g10) : W.cell? ⟨B, 4, none⟩ = some (.bool g4) := by simp [World.cell?, show W.heap[B]? = _ from h]
theorem NdAt.c5 (h : NdAt W B g0 g1 g2 g3 g4 g5 g6 g7 g8 g9 g10) : W.cell? ⟨B, 5, none⟩ = some (.bool g5) := by simp [World.cell?, show W.heap[B]? = _ from h]
theorem NdAt.c6 (h : NdAt W B g0 g1 g2 g3 g4 g5 g6 g7 g8 g9 g10) : W.cell? ⟨B, 6, none⟩ = some (.bool g6) := by simp [World.cell?, show W.heap[B]? = _ from h]
theorem NdAt.c7 (h : NdAt W B g0 g1 g2 g3 g4 g5 g6 g7 g8 g9 g10) : W.cell? ⟨B, 7, none⟩ = some (.bool g7) := by simp [World.cell?, show W.heap[B]? = _ from h]
theorem NdAt.c8 (h : NdAt W B g0 g1 g2 g3 g4 g5 g6 g7 g8 g9 g10) : W.cell? ⟨B, 8, none⟩ = some (.bool g8) := by simp [World.cell?, show W.heap[B]? = _ from h]
theorem NdAt.c9 (h : NdAt W B g0 g1 g2 g3 g4 g5 g6 g7 g8 g9 g10) : W.cell? ⟨B, 9, none⟩ = some (.bool g9) := by simp [World.cell?, show W.heap[B]? = _ from h]
theorem NdAt.c10 (h : NdAt W B g0 g1 g2 g3 g4 g5 g6 g7 g8 g9 g10) : W.cell? ⟨B, 10, none⟩ = some (.bool g10) := by simp [World.cell?, show W.heap[B]? = _ from h]
theorem ndAt_new (W : World) (g0 g1 g2 g3 g4 g5 g6 g7 g8 g9 g10 : Bool) : NdAt (W.alloc (.cells #[.bool g0, .bool g1, .bool g2, .bool g3, .bool g4, .bool g5, .bool g6, .bool g7, .bool g8, .bool g9, .bool g10] 56)) W.heap.size g0 g1 g2 g3 g4 g5 g6 g7 g8 g9 g10 := World.alloc_heap_new W _
theorem NdAt.of_block (h : NdAt W B g0 g1 g2 g3 g4 g5 g6 g7 g8 g9 g10) (hb : W'.heap[B]? = W.heap[B]?) : NdAt W' B g0 g1 g2 g3 g4 g5 g6 g7 g8 g9 g10 := hb.trans h
end
end Go.Proofs.YtengpehiknoheaaDoor
