/-
  The walk of tollbarlaw10's alive.
-/
import Derived.Test.YthellmecdmolcaaDoorICheck
namespace Go.Proofs.YthellmecdmolcaaDoor
open Go.RowKit

theorem itoa_digit (i : Nat) (h : i < 10) : Lib.itoa (i : Int) = [UInt8.ofNat (48 + i)] := by rw [Lib.itoa_nonneg, Lib.decDigits_one h]
theorem itoa_neg1 : Lib.itoa (-1) = [45, 49] := by
  have h := Lib.itoa_neg 1 (by omega)
  rw [Lib.decDigits_one (by omega)] at h
  exact h
theorem line_recv : lineL ⟨6, 1, 2, 0, 0⟩ = [114, 101, 99, 118, 32, 49, 32, 50, 32, 48] := by
  have h0 := itoa_digit 0 (by omega)
  have h1 := itoa_digit 1 (by omega)
  have h2 := itoa_digit 2 (by omega)
  have e : lineL ⟨6, 1, 2, 0, 0⟩ = ((((([114, 101, 99, 118] ++ [32]) ++ Lib.itoa ((1 : Nat) : Int)) ++ [32]) ++ Lib.itoa ((2 : Nat) : Int)) ++ [32]) ++ Lib.itoa ((0 : Nat) : Int) := rfl
  rw [e, h0, h1, h2]
  decide
theorem line_send : lineL ⟨5, 3, 0, -1, 0⟩ = [115, 101, 110, 100, 32, 51, 32, 45, 49] := by
  have h3 := itoa_digit 3 (by omega)
  have e : lineL ⟨5, 3, 0, -1, 0⟩ = ((([115, 101, 110, 100] ++ [32]) ++ Lib.itoa ((3 : Nat) : Int)) ++ [32]) ++ Lib.itoa (-1) := rfl
  rw [e, h3, itoa_neg1]
  decide
theorem line_set : lineL ⟨1, 1, 0, 0, 5⟩ = [115, 101, 116, 32, 49, 32, 53] := by
  have h1 := itoa_digit 1 (by omega)
  have h5 := itoa_digit 5 (by omega)
  have e : lineL ⟨1, 1, 0, 0, 5⟩ = ((([115, 101, 116] ++ [32]) ++ Lib.itoa ((1 : Nat) : Int)) ++ [32]) ++ Lib.itoa ((5 : Nat) : Int) := rfl
  rw [e, h1, h5]
  decide
theorem ok_send : (⟨5, 3, 0, -1, 0⟩ : In).ok := ⟨by decide, ⟨by decide, by decide⟩, ⟨by decide, by decide⟩, ⟨by decide, by decide⟩, ⟨by decide, by decide⟩⟩
theorem read_send : readB [115, 101, 110, 100, 32, 51, 32, 45, 49] = true ∧ readV [115, 101, 110, 100, 32, 51, 32, 45, 49] = ⟨5, 3, 0, -1, 0⟩ := by
  have h := readB_line parse_itoa ok_send (by decide)
  rwa [line_send] at h
theorem read_set : readB [115, 101, 116, 32, 49, 32, 48, 53] = false := by
  have e : readX [115, 101, 116, 32, 49, 32, 48, 53] = ⟨1, 1, 0, 0, 5⟩ := In.eq_iff.1 (by decide +kernel)
  unfold readB
  rw [e, line_set]
  decide

set_option maxRecDepth 100000 in
set_option maxHeartbeats 1600000 in
theorem alive_any (w : World) (hv : Vars w) :
    Calls Tryd.prog 6 #[] w fun e w' => e = .returned (.bool true) ∧ Below w.heap.size w w' := by
  have l1 : Calls Tryd.prog 7 #[.agg #[.int .u8 6, .int .i64 1, .int .i64 2, .int .i64 0, .int .i64 0]] w fun e w' => e = .returned (.tuple #[.string ⟨#[114, 101, 99, 118, 32, 49, 32, 50, 32, 48]⟩, .int .i64 0]) ∧ Below w.heap.size w w' := by
    have h := line_any ⟨6, 1, 2, 0, 0⟩ ⟨by decide, ⟨by decide, by decide⟩, ⟨by decide, by decide⟩, ⟨by decide, by decide⟩, ⟨by decide, by decide⟩⟩ w hv
    have e1 : lineV ⟨6, 1, 2, 0, 0⟩ = [114, 101, 99, 118, 32, 49, 32, 50, 32, 48] := by unfold lineV; rw [show okI ⟨6, 1, 2, 0, 0⟩ = true by decide, line_recv]; rfl
    have e2 : lineE ⟨6, 1, 2, 0, 0⟩ = 0 := by decide
    rw [e1, e2] at h
    exact h
  have l2 : ∀ W, Vars W → Calls Tryd.prog 9 #[.string ⟨#[115, 101, 110, 100, 32, 51, 32, 45, 49]⟩] W fun e w' => e = .returned (.tuple #[.agg #[.int .u8 5, .int .i64 3, .int .i64 0, .int .i64 (-1), .int .i64 0], .int .i64 0]) ∧ Below W.heap.size W w' := fun W hW => by
    have h := read_any [115, 101, 110, 100, 32, 51, 32, 45, 49] (by decide) W hW
    have e2 : readE [115, 101, 110, 100, 32, 51, 32, 45, 49] = 0 := by unfold readE; rw [read_send.1]; rfl
    rw [read_send.2, e2] at h
    exact h
  have l3 : ∀ W, Vars W → Calls Tryd.prog 9 #[.string ⟨#[115, 101, 116, 32, 49, 32, 48, 53]⟩] W fun e w' => e = .returned (.tuple #[.agg #[.int .u8 0, .int .i64 0, .int .i64 0, .int .i64 0, .int .i64 0], .int .i64 7]) ∧ Below W.heap.size W w' := fun W hW => by
    have h := read_any [115, 101, 116, 32, 49, 32, 48, 53] (by decide) W hW
    have e1 : readV [115, 101, 116, 32, 49, 32, 48, 53] = In.zero := by unfold readV; rw [read_set]; rfl
    have e2 : readE [115, 101, 116, 32, 49, 32, 48, 53] = 7 := by unfold readE; rw [read_set]; rfl
    rw [e1, e2] at h
    exact h
  have l4 : ∀ W, Vars W → Calls Tryd.prog 7 #[.agg #[.int .u8 10, .int .i64 0, .int .i64 0, .int .i64 0, .int .i64 1]] W fun e w' => e = .returned (.tuple #[.string ⟨#[]⟩, .int .i64 2]) ∧ Below W.heap.size W w' := fun W hW => by
    have h := line_any ⟨10, 0, 0, 0, 1⟩ ⟨by decide, ⟨by decide, by decide⟩, ⟨by decide, by decide⟩, ⟨by decide, by decide⟩, ⟨by decide, by decide⟩⟩ W hW
    have e1 : lineV ⟨10, 0, 0, 0, 1⟩ = [] := by unfold lineV; rw [show okI ⟨10, 0, 0, 0, 1⟩ = false by decide]; rfl
    have e2 : lineE ⟨10, 0, 0, 0, 1⟩ = 2 := by decide
    rw [e1, e2] at h
    exact h
  have l5 : ∀ W, Calls Tryd.prog 11 #[.agg #[.int .u8 3, .int .i64 0, .int .i64 0, .int .i64 0, .int .i64 3], .int .i64 0, .int .i64 0, .int .i64 1, .int .i64 4] W fun e w' => e = .returned (.int .i64 0) ∧ Below W.heap.size W w' := fun W => by
    have h := check_any ⟨3, 0, 0, 0, 3⟩ ⟨by decide, ⟨by decide, by decide⟩, ⟨by decide, by decide⟩, ⟨by decide, by decide⟩, ⟨by decide, by decide⟩⟩ 0 0 1 4 W
    rw [show checkE ⟨3, 0, 0, 0, 3⟩ 0 0 1 4 = 0 by decide] at h
    exact h
  have l6 : ∀ W, Calls Tryd.prog 11 #[.agg #[.int .u8 3, .int .i64 0, .int .i64 0, .int .i64 0, .int .i64 4], .int .i64 0, .int .i64 0, .int .i64 1, .int .i64 4] W fun e w' => e = .returned (.int .i64 2) ∧ Below W.heap.size W w' := fun W => by
    have h := check_any ⟨3, 0, 0, 0, 4⟩ ⟨by decide, ⟨by decide, by decide⟩, ⟨by decide, by decide⟩, ⟨by decide, by decide⟩, ⟨by decide, by decide⟩⟩ 0 0 1 4 W
    rw [show checkE ⟨3, 0, 0, 0, 4⟩ 0 0 1 4 = 2 by decide] at h
    exact h
  have l7 : ∀ W, Calls Tryd.prog 13 #[.int .u8 4] W fun e w' => e = .returned (.bool true) ∧ w' = W := fun W => local_any 4 W
  have l8 : ∀ W, Calls Tryd.prog 13 #[.int .u8 5] W fun e w' => e = .returned (.bool false) ∧ w' = W := fun W => local_any 5 W
  go_enter Tryd.func6, Tryd.ntmps6
  go_wp2_with fail
  refine l1.mono ?_
  rintro e w1 ⟨rfl, b1⟩
  have v1 := hv.below b1
  go_wp2_with fail
  refine (l2 _ v1).mono ?_
  rintro e w2 ⟨rfl, b2⟩
  have B2 := below_next b1 b2 (Nat.le_refl _)
  obtain ⟨w2', hw2⟩ : ∃ w', w' = w2.alloc (.cells #[.int .u8 5, .int .i64 3, .int .i64 0, .int .i64 (-1), .int .i64 0] 23) := ⟨_, rfl⟩
  have b2' : But [] w2 w2' := by rw [hw2]; exact (But.refl [] w2).alloc _
  have i2 : InAt w2' w2.heap.size ⟨5, 3, 0, -1, 0⟩ := by rw [hw2]; exact inAt_new w2 ⟨5, 3, 0, -1, 0⟩
  have B2' := below_next B2 (b2'.below (Nat.le_refl _) (by simp)) (Nat.le_refl _)
  have l3' := l3 w2' (hv.below B2')
  rw [hw2] at l3'
  clear v1 b1 b2 B2
  go_wp2_with fail
  refine l3'.mono ?_
  rw [← hw2]
  rintro e w3 ⟨rfl, b3⟩
  have B3 := below_next B2' b3 (Nat.le_refl _)
  have i3 := i2.of_block (b3.block _ i2.lt)
  obtain ⟨w3', hw3⟩ : ∃ w', w' = w3.alloc (.cells #[.int .u8 0, .int .i64 0, .int .i64 0, .int .i64 0, .int .i64 0] 23) := ⟨_, rfl⟩
  have b3' : But [] w3 w3' := by rw [hw3]; exact (But.refl [] w3).alloc _
  have i3' := i3.of_block (b3'.block _ i3.lt (by simp))
  have B3' := below_next B3 (b3'.below (Nat.le_refl _) (by simp)) (Nat.le_refl _)
  have l4' := l4 w3' (hv.below B3')
  rw [hw3] at l4'
  clear b3 B3 B2' b2' i2 i3 b3' l3' hw2
  go_wp2_with fail
  refine l4'.mono ?_
  rw [← hw3]
  rintro e w4 ⟨rfl, b4⟩
  have B4 := below_next B3' b4 (Nat.le_refl _)
  have i4 := i3'.of_block (b4.block _ i3'.lt)
  have c0 : w4.cell? ⟨w2.heap.size, 0, none⟩ = some (.int .u8 5) := i4.c0
  have c1 : w4.cell? ⟨w2.heap.size, 1, none⟩ = some (.int .i64 3) := i4.c1
  have c2 : w4.cell? ⟨w2.heap.size, 2, none⟩ = some (.int .i64 0) := i4.c2
  have c3 : w4.cell? ⟨w2.heap.size, 3, none⟩ = some (.int .i64 (-1)) := i4.c3
  have c4 : w4.cell? ⟨w2.heap.size, 4, none⟩ = some (.int .i64 0) := i4.c4
  clear b4 B3' i3' i4 l4' hw3
  go_wp2_with fail
  refine (l5 _).mono ?_
  rintro e w5 ⟨rfl, b5⟩
  have B5 := below_next B4 b5 (Nat.le_refl _)
  go_wp2_with fail
  refine (l6 _).mono ?_
  rintro e w6 ⟨rfl, b6⟩
  have B6 := below_next B5 b6 (Nat.le_refl _)
  go_wp2_with fail
  refine (l7 _).mono ?_
  rintro e w7 ⟨rfl, rfl⟩
  go_wp2_with fail
  refine (l8 _).mono ?_
  rintro e w8 ⟨rfl, rfl⟩
  go_wp2_with fail
  go_ret
  exact ⟨rfl, B6⟩
end Go.Proofs.YthellmecdmolcaaDoor
