/-
  Sizes: which may be; the walks of Check and May.
-/
import Derived.Deep.RegionHeld3
import Derived.Deep.RegionWith
import Derived.Test.YtfbcaicfppommaaBBase
namespace Go.Proofs.Ytfbcaicfppommaa
open Go.RowKit

structure Sz where
  W : Int
  P : Int
  T : Int
  C : Int
  N : Int
  Q : Int
def I64b (x : Int) : Prop := -9223372036854775808 ≤ x ∧ x ≤ 9223372036854775807
def Sz.val (z : Sz) : Value := .agg #[.int .i64 z.W, .int .i64 z.P, .int .i64 z.T, .int .i64 z.C, .int .i64 z.N, .int .i64 z.Q]
structure Sz.ok (z : Sz) : Prop where
  w : I64b z.W
  p : I64b z.P
  t : I64b z.T
  c : I64b z.C
  n : I64b z.N
  q : I64b z.Q
/-- The lesser one of 255 and another number. -/
def few (x : Int) : Int := if x < 255 then x else 255
/-- May the size be? -/
def Sz.may (z : Sz) : Bool := insB 1 1024 z.W && (insB 1 (few z.W) z.P && (insB 1 32 z.T && (insB 0 6 z.C && (insB 1 6 z.N && insB 1 1000 z.Q))))
def Sz.check (z : Sz) : Int := if z.may then 0 else 2
/-- Block B is the size z's. -/
structure SzAt (W : World) (B : Nat) (z : Sz) : Prop where
  block : W.heap[B]? = some (.cells #[.int .i64 z.W, .int .i64 z.P, .int .i64 z.T, .int .i64 z.C, .int .i64 z.N, .int .i64 z.Q] 23 (0, 0))
section
variable {W W' : World} {B : Nat} {z : Sz}
theorem SzAt.lt (h : SzAt W B z) : B < W.heap.size := (Array.getElem?_eq_some_iff.1 h.block).1
theorem SzAt.but (h : SzAt W B z) {S : List Nat} (hb : But S W W') (hn : B ∉ S) : SzAt W' B z := ⟨(hb.block B h.lt hn).trans h.block⟩
theorem SzAt.next (h : SzAt W B z) (hb : But [] W W') : SzAt W' B z := h.but hb (by simp)
theorem SzAt.cW (h : SzAt W B z) : W.cell? ⟨B, 0, none⟩ = some (.int .i64 z.W) := by simp [World.cell?, h.block]
theorem SzAt.cP (h : SzAt W B z) : W.cell? ⟨B, 1, none⟩ = some (.int .i64 z.P) := by simp [World.cell?, h.block]
theorem SzAt.cT (h : SzAt W B z) : W.cell? ⟨B, 2, none⟩ = some (.int .i64 z.T) := by simp [World.cell?, h.block]
theorem SzAt.cC (h : SzAt W B z) : W.cell? ⟨B, 3, none⟩ = some (.int .i64 z.C) := by simp [World.cell?, h.block]
theorem SzAt.cN (h : SzAt W B z) : W.cell? ⟨B, 4, none⟩ = some (.int .i64 z.N) := by simp [World.cell?, h.block]
theorem SzAt.cQ (h : SzAt W B z) : W.cell? ⟨B, 5, none⟩ = some (.int .i64 z.Q) := by simp [World.cell?, h.block]
end
/-- The block of a size. -/
def szO (z : Sz) : Obj := .cells #[.int .i64 z.W, .int .i64 z.P, .int .i64 z.T, .int .i64 z.C, .int .i64 z.N, .int .i64 z.Q] 23
theorem szAt_new (w : World) (z : Sz) : SzAt (w.alloc (szO z)) w.heap.size z := ⟨World.alloc_heap_new w _⟩
theorem check_no {z : Sz} (h : z.may = false) : Ending.returned (.int .i64 2) = .returned (.int .i64 z.check) := by simp [Sz.check, h]
theorem check_yes {z : Sz} (h : z.may = true) : Ending.returned (.int .i64 0) = .returned (.int .i64 z.check) := by simp [Sz.check, h]

set_option maxHeartbeats 3200000 in
theorem check_any (z : Sz) (w : World) :
    Calls Try.prog 17 #[z.val] w fun e w' => e = .returned (.int .i64 z.check) ∧ But [] w w' := by
  have hZ := szAt_new w z
  have hB : But [] w (w.alloc (szO z)) := (But.refl _ _).alloc _
  unfold szO at hZ hB
  unfold Sz.val
  go_enter Try.func17, Try.ntmps17
  go_wp2_with fail
  obtain ⟨B, hBB⟩ : ∃ B, B = w.heap.size := ⟨_, rfl⟩
  rw [← hBB] at hZ ⊢
  clear hBB
  generalize (w.alloc (.cells #[.int .i64 z.W, .int .i64 z.P, .int .i64 z.T, .int .i64 z.C, .int .i64 z.N, .int .i64 z.Q] 23)) = w0 at hZ hB ⊢
  by_cases h0n : insB 1 1024 z.W = false
  · have h0 := h0n
    have c0 := hZ.cW
    have h00 := But.refl [] w0
    go_region_held3 (fun w' => w'.cell? ⟨B, 0, none⟩ = some (.int .i64 z.W) ∧ But [] w0 w')
      (refine ⟨?_, ?_⟩ <;> first | assumption | exact h00.drew | (exact But.next (by assumption) hb1) | (exact But.next h00.drew hb1) | (exact hb1.cell c0 (by simp)))
      ((first
        | (go_at_call 25; refine (within_any 1 1024 _).mono ?_; rintro e wa ⟨rfl, hP, hQ, hb1⟩)
        | (go_at_call 32; refine (in_is h0 _ _ _ hP hQ).mono ?_; rintro e wb ⟨rfl, rfl⟩)))
    have hZ := hZ.next (h00.drew.next hb1)
    have hB := hB.next (h00.drew.next hb1)
    clear c0 h00 hb1 hP hQ
    have hm : z.may = false := by simp [Sz.may, h0]
    clear h0 h0n hZ
    go_wp2_with fail
    go_ret
    exact ⟨check_no hm, hB⟩
  have h0 := (Bool.not_eq_false _).mp h0n
  clear h0n
  have c0 := hZ.cW
  have h00 := But.refl [] w0
  go_region_held3 (fun w' => w'.cell? ⟨B, 0, none⟩ = some (.int .i64 z.W) ∧ But [] w0 w')
    (refine ⟨?_, ?_⟩ <;> first | assumption | exact h00.drew | (exact But.next (by assumption) hb1) | (exact But.next h00.drew hb1) | (exact hb1.cell c0 (by simp)))
    ((first
      | (go_at_call 25; refine (within_any 1 1024 _).mono ?_; rintro e wa ⟨rfl, hP, hQ, hb1⟩)
      | (go_at_call 32; refine (in_is h0 _ _ _ hP hQ).mono ?_; rintro e wb ⟨rfl, rfl⟩)))
  have hZ := hZ.next (h00.drew.next hb1)
  have hB := hB.next (h00.drew.next hb1)
  clear c0 h00 hb1 hP hQ
  go_wp2_with fail
  generalize wb = w0 at hZ hB ⊢
  by_cases h1n : insB 1 (few z.W) z.P = false
  · have h1 := h1n
    have hmin : (if z.W < 255 then z.W else 255) = few z.W := rfl
    have c0 := hZ.cP
    have c1 := hZ.cW
    have h00 := But.refl [] w0
    go_region_held3 (fun w' => w'.cell? ⟨B, 1, none⟩ = some (.int .i64 z.P) ∧ w'.cell? ⟨B, 0, none⟩ = some (.int .i64 z.W) ∧ But [] w0 w')
      (refine ⟨?_, ?_, ?_⟩ <;> first | assumption | exact h00.drew | (exact But.next (by assumption) hb1) | (exact But.next h00.drew hb1) | (exact hb1.cell c0 (by simp)) | (exact hb1.cell c1 (by simp)))
      ((first
        | (go_at_call 25; refine (within_any 1 (few z.W) _).mono ?_; rintro e wa ⟨rfl, hP, hQ, hb1⟩)
        | (go_at_call 32; refine (in_is h1 _ _ _ hP hQ).mono ?_; rintro e wb ⟨rfl, rfl⟩)))
    have hZ := hZ.next (h00.drew.next hb1)
    have hB := hB.next (h00.drew.next hb1)
    clear c0 c1 h00 hb1 hP hQ hmin
    have hm : z.may = false := by simp [Sz.may, h0, h1]
    clear h0 h1 h1n hZ
    go_wp2_with fail
    go_ret
    exact ⟨check_no hm, hB⟩
  have h1 := (Bool.not_eq_false _).mp h1n
  clear h1n
  have hmin : (if z.W < 255 then z.W else 255) = few z.W := rfl
  have c0 := hZ.cP
  have c1 := hZ.cW
  have h00 := But.refl [] w0
  go_region_held3 (fun w' => w'.cell? ⟨B, 1, none⟩ = some (.int .i64 z.P) ∧ w'.cell? ⟨B, 0, none⟩ = some (.int .i64 z.W) ∧ But [] w0 w')
    (refine ⟨?_, ?_, ?_⟩ <;> first | assumption | exact h00.drew | (exact But.next (by assumption) hb1) | (exact But.next h00.drew hb1) | (exact hb1.cell c0 (by simp)) | (exact hb1.cell c1 (by simp)))
    ((first
      | (go_at_call 25; refine (within_any 1 (few z.W) _).mono ?_; rintro e wa ⟨rfl, hP, hQ, hb1⟩)
      | (go_at_call 32; refine (in_is h1 _ _ _ hP hQ).mono ?_; rintro e wb ⟨rfl, rfl⟩)))
  have hZ := hZ.next (h00.drew.next hb1)
  have hB := hB.next (h00.drew.next hb1)
  clear c0 c1 h00 hb1 hP hQ hmin
  go_wp2_with fail
  generalize wb = w0 at hZ hB ⊢
  by_cases h2n : insB 1 32 z.T = false
  · have h2 := h2n
    have c0 := hZ.cT
    have h00 := But.refl [] w0
    go_region_held3 (fun w' => w'.cell? ⟨B, 2, none⟩ = some (.int .i64 z.T) ∧ But [] w0 w')
      (refine ⟨?_, ?_⟩ <;> first | assumption | exact h00.drew | (exact But.next (by assumption) hb1) | (exact But.next h00.drew hb1) | (exact hb1.cell c0 (by simp)))
      ((first
        | (go_at_call 25; refine (within_any 1 32 _).mono ?_; rintro e wa ⟨rfl, hP, hQ, hb1⟩)
        | (go_at_call 32; refine (in_is h2 _ _ _ hP hQ).mono ?_; rintro e wb ⟨rfl, rfl⟩)))
    have hZ := hZ.next (h00.drew.next hb1)
    have hB := hB.next (h00.drew.next hb1)
    clear c0 h00 hb1 hP hQ
    have hm : z.may = false := by simp [Sz.may, h0, h1, h2]
    clear h0 h1 h2 h2n hZ
    go_wp2_with fail
    go_ret
    exact ⟨check_no hm, hB⟩
  have h2 := (Bool.not_eq_false _).mp h2n
  clear h2n
  have c0 := hZ.cT
  have h00 := But.refl [] w0
  go_region_held3 (fun w' => w'.cell? ⟨B, 2, none⟩ = some (.int .i64 z.T) ∧ But [] w0 w')
    (refine ⟨?_, ?_⟩ <;> first | assumption | exact h00.drew | (exact But.next (by assumption) hb1) | (exact But.next h00.drew hb1) | (exact hb1.cell c0 (by simp)))
    ((first
      | (go_at_call 25; refine (within_any 1 32 _).mono ?_; rintro e wa ⟨rfl, hP, hQ, hb1⟩)
      | (go_at_call 32; refine (in_is h2 _ _ _ hP hQ).mono ?_; rintro e wb ⟨rfl, rfl⟩)))
  have hZ := hZ.next (h00.drew.next hb1)
  have hB := hB.next (h00.drew.next hb1)
  clear c0 h00 hb1 hP hQ
  go_wp2_with fail
  generalize wb = w0 at hZ hB ⊢
  by_cases h3n : insB 0 6 z.C = false
  · have h3 := h3n
    have c0 := hZ.cC
    have h00 := But.refl [] w0
    go_region_held3 (fun w' => w'.cell? ⟨B, 3, none⟩ = some (.int .i64 z.C) ∧ But [] w0 w')
      (refine ⟨?_, ?_⟩ <;> first | assumption | exact h00.drew | (exact But.next (by assumption) hb1) | (exact But.next h00.drew hb1) | (exact hb1.cell c0 (by simp)))
      ((first
        | (go_at_call 25; refine (within_any 0 6 _).mono ?_; rintro e wa ⟨rfl, hP, hQ, hb1⟩)
        | (go_at_call 32; refine (in_is h3 _ _ _ hP hQ).mono ?_; rintro e wb ⟨rfl, rfl⟩)))
    have hZ := hZ.next (h00.drew.next hb1)
    have hB := hB.next (h00.drew.next hb1)
    clear c0 h00 hb1 hP hQ
    have hm : z.may = false := by simp [Sz.may, h0, h1, h2, h3]
    clear h0 h1 h2 h3 h3n hZ
    go_wp2_with fail
    go_ret
    exact ⟨check_no hm, hB⟩
  have h3 := (Bool.not_eq_false _).mp h3n
  clear h3n
  have c0 := hZ.cC
  have h00 := But.refl [] w0
  go_region_held3 (fun w' => w'.cell? ⟨B, 3, none⟩ = some (.int .i64 z.C) ∧ But [] w0 w')
    (refine ⟨?_, ?_⟩ <;> first | assumption | exact h00.drew | (exact But.next (by assumption) hb1) | (exact But.next h00.drew hb1) | (exact hb1.cell c0 (by simp)))
    ((first
      | (go_at_call 25; refine (within_any 0 6 _).mono ?_; rintro e wa ⟨rfl, hP, hQ, hb1⟩)
      | (go_at_call 32; refine (in_is h3 _ _ _ hP hQ).mono ?_; rintro e wb ⟨rfl, rfl⟩)))
  have hZ := hZ.next (h00.drew.next hb1)
  have hB := hB.next (h00.drew.next hb1)
  clear c0 h00 hb1 hP hQ
  go_wp2_with fail
  generalize wb = w0 at hZ hB ⊢
  by_cases h4n : insB 1 6 z.N = false
  · have h4 := h4n
    have c0 := hZ.cN
    have h00 := But.refl [] w0
    go_region_held3 (fun w' => w'.cell? ⟨B, 4, none⟩ = some (.int .i64 z.N) ∧ But [] w0 w')
      (refine ⟨?_, ?_⟩ <;> first | assumption | exact h00.drew | (exact But.next (by assumption) hb1) | (exact But.next h00.drew hb1) | (exact hb1.cell c0 (by simp)))
      ((first
        | (go_at_call 25; refine (within_any 1 6 _).mono ?_; rintro e wa ⟨rfl, hP, hQ, hb1⟩)
        | (go_at_call 32; refine (in_is h4 _ _ _ hP hQ).mono ?_; rintro e wb ⟨rfl, rfl⟩)))
    have hZ := hZ.next (h00.drew.next hb1)
    have hB := hB.next (h00.drew.next hb1)
    clear c0 h00 hb1 hP hQ
    have hm : z.may = false := by simp [Sz.may, h0, h1, h2, h3, h4]
    clear h0 h1 h2 h3 h4 h4n hZ
    go_wp2_with fail
    go_ret
    exact ⟨check_no hm, hB⟩
  have h4 := (Bool.not_eq_false _).mp h4n
  clear h4n
  have c0 := hZ.cN
  have h00 := But.refl [] w0
  go_region_held3 (fun w' => w'.cell? ⟨B, 4, none⟩ = some (.int .i64 z.N) ∧ But [] w0 w')
    (refine ⟨?_, ?_⟩ <;> first | assumption | exact h00.drew | (exact But.next (by assumption) hb1) | (exact But.next h00.drew hb1) | (exact hb1.cell c0 (by simp)))
    ((first
      | (go_at_call 25; refine (within_any 1 6 _).mono ?_; rintro e wa ⟨rfl, hP, hQ, hb1⟩)
      | (go_at_call 32; refine (in_is h4 _ _ _ hP hQ).mono ?_; rintro e wb ⟨rfl, rfl⟩)))
  have hZ := hZ.next (h00.drew.next hb1)
  have hB := hB.next (h00.drew.next hb1)
  clear c0 h00 hb1 hP hQ
  go_wp2_with fail
  generalize wb = w0 at hZ hB ⊢
  by_cases h5n : insB 1 1000 z.Q = false
  · have h5 := h5n
    have c0 := hZ.cQ
    have h00 := But.refl [] w0
    go_region_held3 (fun w' => w'.cell? ⟨B, 5, none⟩ = some (.int .i64 z.Q) ∧ But [] w0 w')
      (refine ⟨?_, ?_⟩ <;> first | assumption | exact h00.drew | (exact But.next (by assumption) hb1) | (exact But.next h00.drew hb1) | (exact hb1.cell c0 (by simp)))
      ((first
        | (go_at_call 25; refine (within_any 1 1000 _).mono ?_; rintro e wa ⟨rfl, hP, hQ, hb1⟩)
        | (go_at_call 32; refine (in_is h5 _ _ _ hP hQ).mono ?_; rintro e wb ⟨rfl, rfl⟩)))
    have hZ := hZ.next (h00.drew.next hb1)
    have hB := hB.next (h00.drew.next hb1)
    clear c0 h00 hb1 hP hQ
    have hm : z.may = false := by simp [Sz.may, h0, h1, h2, h3, h4, h5]
    clear h0 h1 h2 h3 h4 h5 h5n hZ
    go_wp2_with fail
    go_ret
    exact ⟨check_no hm, hB⟩
  have h5 := (Bool.not_eq_false _).mp h5n
  clear h5n
  have c0 := hZ.cQ
  have h00 := But.refl [] w0
  go_region_held3 (fun w' => w'.cell? ⟨B, 5, none⟩ = some (.int .i64 z.Q) ∧ But [] w0 w')
    (refine ⟨?_, ?_⟩ <;> first | assumption | exact h00.drew | (exact But.next (by assumption) hb1) | (exact But.next h00.drew hb1) | (exact hb1.cell c0 (by simp)))
    ((first
      | (go_at_call 25; refine (within_any 1 1000 _).mono ?_; rintro e wa ⟨rfl, hP, hQ, hb1⟩)
      | (go_at_call 32; refine (in_is h5 _ _ _ hP hQ).mono ?_; rintro e wb ⟨rfl, rfl⟩)))
  have hZ := hZ.next (h00.drew.next hb1)
  have hB := hB.next (h00.drew.next hb1)
  clear c0 h00 hb1 hP hQ
  go_wp2_with fail
  generalize wb = w0 at hZ hB ⊢
  have hm : z.may = true := by simp [Sz.may, h0, h1, h2, h3, h4, h5]
  clear h0 h1 h2 h3 h4 h5 hZ
  go_ret
  exact ⟨check_yes hm, hB⟩
end Go.Proofs.Ytfbcaicfppommaa
