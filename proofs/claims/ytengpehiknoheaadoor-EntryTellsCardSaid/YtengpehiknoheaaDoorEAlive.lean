/-
  The walk of tollbarlaw14's alive.
-/
import Derived.Test.YtengpehiknoheaaDoorELine
import Derived.Test.YtengpehiknoheaaDoorEBackP
namespace Go.Proofs.YtengpehiknoheaaDoor
open Go.RowKit Oct

theorem itoa_digit (i : Nat) (h : i < 10) : Lib.itoa (i : Int) = [UInt8.ofNat (48 + i)] := by rw [Lib.itoa_nonneg, Lib.decDigits_one h]
theorem itoa_neg1 : Lib.itoa (-1) = [45, 49] := by
  have h := Lib.itoa_neg 1 (by omega)
  rw [Lib.decDigits_one (by omega)] at h
  exact h
/-- The chapter's example. -/
def enX : En := ⟨7, 3, 0, 0, 2, 1, -1, -1, 5, 0, true, 0, 0⟩
theorem enX_ok : enX.ok := ⟨⟨by decide, by decide⟩, by decide, ⟨by decide, by decide⟩, ⟨by decide, by decide⟩, ⟨by decide, by decide⟩, ⟨by decide, by decide⟩, ⟨by decide, by decide⟩, ⟨by decide, by decide⟩, ⟨by decide, by decide⟩, ⟨by decide, by decide⟩, ⟨by decide, by decide⟩, by decide⟩
theorem zero_okE : En.zero.ok := ⟨i64_zero, by decide, i64_zero, i64_zero, i64_zero, i64_zero, i64_zero, i64_zero, i64_zero, i64_zero, i64_zero, by decide⟩
theorem enX_may : okB enX = true := by decide
theorem zero_may : okB En.zero = false := by decide
theorem line_enX : lineL enX = [55, 32, 109, 101, 101, 116, 32, 48, 32, 50, 32, 49, 32, 45, 49, 32, 45, 49, 32, 53, 32, 49] := by
  have h0 := itoa_digit 0 (by omega)
  have h1 := itoa_digit 1 (by omega)
  have h2 := itoa_digit 2 (by omega)
  have h5 := itoa_digit 5 (by omega)
  have h7 := itoa_digit 7 (by omega)
  unfold lineL
  rw [line_fold]
  have e : lineH enX ++ tailL enX (namesOf enX.k) = (((Lib.itoa ((7 : Nat) : Int) ++ [32]) ++ [109, 101, 101, 116])) ++ ((32 :: Lib.itoa ((0 : Nat) : Int)) ++ ((32 :: Lib.itoa ((2 : Nat) : Int)) ++ ((32 :: Lib.itoa ((1 : Nat) : Int)) ++ ((32 :: Lib.itoa (-1)) ++ ((32 :: Lib.itoa (-1)) ++ ((32 :: Lib.itoa ((5 : Nat) : Int)) ++ ((32 :: Lib.itoa ((1 : Nat) : Int)) ++ []))))))) := rfl
  rw [e, h0, h1, h2, h5, h7, itoa_neg1]
  decide
theorem bytes_enX : enL enX = [7, 3, 0, 3, 1, 0, 0, 10, 1] := by
  have e : enL enX = (numL 7 ++ numL 3) ++ (numL 0 ++ (numL 3 ++ (numL 1 ++ (numL 0 ++ (numL 0 ++ (numL 10 ++ (numL 1 ++ []))))))) := rfl
  rw [e, numL_small (v := 7) (by decide), numL_small (v := 3) (by decide), numL_small (v := 0) (by decide), numL_small (v := 1) (by decide), numL_small (v := 10) (by decide)]
  decide
theorem read_seven : getL [7] = none := by
  refine getL_none (by simp) ?_
  have e : rowR 2 [7] = ([], [], 6) := by
    have h1 : getR [7] = (7, [], 0) := by
      have := getR_numL (u := 7) (by decide) []
      rwa [numL_small (v := 7) (by decide)] at this
    have h2 : getR [] = (0, [], 6) := rfl
    show rowG 2 [] [7] = _
    unfold rowG
    rw [h1]
    simp only
    unfold rowG
    rw [h2]
    rfl
  have hh : headB [7] = false := by unfold headB; rw [e]; rfl
  unfold readR
  rw [hh]
  rfl

set_option maxRecDepth 100000 in
set_option maxHeartbeats 3200000 in
theorem ealive_any (w : World) (hv : Vars w) :
    Calls Tryd.prog 6 #[] w fun e w' => e = .returned (.bool true) ∧ Below w.heap.size w w' := by
  have l1 : ∀ W, Vars W → Calls Tryd.prog 7 #[.agg #[.int .i64 7, .int .u8 3, .int .i64 0, .int .i64 0, .int .i64 2, .int .i64 1, .int .i64 (-1), .int .i64 (-1), .int .i64 5, .int .i64 0, .bool true, .int .i64 0, .int .u64 0]] W fun e w' => e = .returned (.tuple #[.string ⟨#[55, 32, 109, 101, 101, 116, 32, 48, 32, 50, 32, 49, 32, 45, 49, 32, 45, 49, 32, 53, 32, 49]⟩, .int .i64 0]) ∧ Below W.heap.size W w' := fun W hW => by
    have h := eline_any enX enX_ok W hW
    rw [show lineV enX = [55, 32, 109, 101, 101, 116, 32, 48, 32, 50, 32, 49, 32, 45, 49, 32, 45, 49, 32, 53, 32, 49] by unfold lineV; rw [enX_may, line_enX]; rfl, show checkE enX = 0 by unfold checkE; rw [enX_may]; rfl] at h
    exact h
  have l2 : ∀ W v, EnRow W v [enX] → Calls Tryd.prog 9 #[v] W fun e w' => e = .returned (.tuple #[.string ⟨#[7, 3, 0, 3, 1, 0, 0, 10, 1]⟩, .int .i64 0]) ∧ Below W.heap.size W w' := fun W v hr => by
    have h := eputs_any v [enX] W hr (by intro x hx; obtain rfl := List.mem_singleton.1 hx; exact enX_ok) (by simp)
    have e : [enX].all okB = true := by rw [List.all_cons, enX_may]; rfl
    rw [show putS [enX] = [7, 3, 0, 3, 1, 0, 0, 10, 1] by unfold putS; rw [if_pos e]; simp [bytes_enX], show putE [enX] = 0 by unfold putE; rw [if_pos e]] at h
    exact h
  have l3 : ∀ W, Calls Tryd.prog 11 #[.string ⟨#[7, 3, 0, 3, 1, 0, 0, 10, 1]⟩] W fun e w' => ∃ v, e = .returned (.tuple #[v, .int .i64 0]) ∧ EnRow w' v [enX] ∧ Below W.heap.size W w' := fun W => by
    have h := egets_any [7, 3, 0, 3, 1, 0, 0, 10, 1] W (by decide)
    have e : getL [7, 3, 0, 3, 1, 0, 0, 10, 1] = some [enX] := by
      have := get_of_put (l := [enX]) (by intro x hx; obtain rfl := List.mem_singleton.1 hx; exact enX_ok) (by rw [List.all_cons, enX_may]; rfl)
      rwa [show [enX].flatMap enL = [7, 3, 0, 3, 1, 0, 0, 10, 1] by simp [bytes_enX]] at this
    refine h.mono fun e' w' ⟨v, h1, h2, _, h4⟩ => ⟨v, ?_, ?_, h4⟩
    · rw [h1]; unfold getE; rw [e]; rfl
    · rw [show [enX] = getV [7, 3, 0, 3, 1, 0, 0, 10, 1] by unfold getV; rw [e]; rfl]; exact h2
  have l4 : ∀ W, Calls Tryd.prog 11 #[.string ⟨#[7]⟩] W fun e w' => ∃ v, e = .returned (.tuple #[v, .int .i64 7]) ∧ Below W.heap.size W w' := fun W => by
    have h := egets_any [7] W (by decide)
    refine h.mono fun e' w' ⟨v, h1, _, _, h4⟩ => ⟨v, ?_, h4⟩
    rw [h1]; unfold getE; rw [read_seven]; rfl
  have l5 : ∀ W v, EnRow W v [En.zero] → Calls Tryd.prog 9 #[v] W fun e w' => e = .returned (.tuple #[.string ⟨#[]⟩, .int .i64 2]) ∧ Below W.heap.size W w' := fun W v hr => by
    have h := eputs_any v [En.zero] W hr (by intro x hx; obtain rfl := List.mem_singleton.1 hx; exact zero_okE) (by simp)
    have e : ¬ [En.zero].all okB = true := by rw [List.all_cons, zero_may]; simp
    rw [show putS [En.zero] = [] by unfold putS; rw [if_neg e], show putE [En.zero] = 2 by unfold putE; rw [if_neg e]] at h
    exact h
  have l6 : ∀ W a b, EnRow W a [enX] → EnRow W b [enX] → Calls Tryd.prog 15 #[a, b] W fun e w' => e = .returned (.bool true) ∧ Below W.heap.size W w' := fun W a b ha hb => by
    have h := same_any a b [enX] [enX] W ha hb (by simp) (by simp)
    rw [show decide ([enX] = [enX]) = true from decide_eq_true rfl] at h
    exact h
  have l7 : ∀ W, Calls Tryd.prog 18 #[.int .u8 11] W fun e w' => e = .returned (.bool true) ∧ w' = W := fun W => commit_any 11 W
  have l8 : ∀ W, Calls Tryd.prog 18 #[.int .u8 25] W fun e w' => e = .returned (.bool false) ∧ w' = W := fun W => commit_any 25 W
  have l9 : ∀ W, Calls Tryd.prog 16 #[.int .u8 26] W fun e w' => e = .returned (.string ⟨#[102, 114, 101, 101]⟩) ∧ Below W.heap.size W w' := fun W => word_any 26 (by decide) W
  have a0 : Below w.heap.size w (w.alloc (.cells #[.int .i64 7, .int .u8 3, .int .i64 0, .int .i64 0, .int .i64 2, .int .i64 1, .int .i64 (-1), .int .i64 (-1), .int .i64 5, .int .i64 0, .bool true, .int .i64 0, .int .u64 0] 26)) := below1 w _
  have x0 : EnAt (w.alloc (.cells #[.int .i64 7, .int .u8 3, .int .i64 0, .int .i64 0, .int .i64 2, .int .i64 1, .int .i64 (-1), .int .i64 (-1), .int .i64 5, .int .i64 0, .bool true, .int .i64 0, .int .u64 0] 26)) w.heap.size enX := enAt_new w enX
  obtain ⟨W0, hW0⟩ : ∃ W0, W0 = w.alloc (.cells #[.int .i64 7, .int .u8 3, .int .i64 0, .int .i64 0, .int .i64 2, .int .i64 1, .int .i64 (-1), .int .i64 (-1), .int .i64 5, .int .i64 0, .bool true, .int .i64 0, .int .u64 0] 26) := ⟨_, rfl⟩
  rw [← hW0] at a0 x0
  have l1' := l1 W0 (hv.below a0)
  rw [hW0] at l1'
  go_enter Tryd.func6, Tryd.ntmps6
  go_wp2_with fail
  refine l1'.mono ?_
  rw [← hW0]
  clear hW0 l1' l1
  rintro e w1 ⟨rfl, b1⟩
  have B1 := below_nx a0 b1 (Nat.le_refl _)
  have x1 : EnAt w1 w.heap.size enX := x0.of_block (b1.block _ x0.lt)
  have c0 : w1.cell? ⟨w.heap.size, 0, none⟩ = some (.int .i64 7) := x1.c0
  have c1 : w1.cell? ⟨w.heap.size, 1, none⟩ = some (.int .u8 3) := x1.c1
  have c2 : w1.cell? ⟨w.heap.size, 2, none⟩ = some (.int .i64 0) := x1.c2
  have c3 : w1.cell? ⟨w.heap.size, 3, none⟩ = some (.int .i64 0) := x1.c3
  have c4 : w1.cell? ⟨w.heap.size, 4, none⟩ = some (.int .i64 2) := x1.c4
  have c5 : w1.cell? ⟨w.heap.size, 5, none⟩ = some (.int .i64 1) := x1.c5
  have c6 : w1.cell? ⟨w.heap.size, 6, none⟩ = some (.int .i64 (-1)) := x1.c6
  have c7 : w1.cell? ⟨w.heap.size, 7, none⟩ = some (.int .i64 (-1)) := x1.c7
  have c8 : w1.cell? ⟨w.heap.size, 8, none⟩ = some (.int .i64 5) := x1.c8
  have c9 : w1.cell? ⟨w.heap.size, 9, none⟩ = some (.int .i64 0) := x1.c9
  have c10 : w1.cell? ⟨w.heap.size, 10, none⟩ = some (.bool true) := x1.c10
  have c11 : w1.cell? ⟨w.heap.size, 11, none⟩ = some (.int .i64 0) := x1.c11
  have c12 : w1.cell? ⟨w.heap.size, 12, none⟩ = some (.int .u64 0) := x1.c12
  have l2' := l2 (w1.alloc (.cells #[.int .i64 7, .int .u8 3, .int .i64 0, .int .i64 0, .int .i64 2, .int .i64 1, .int .i64 (-1), .int .i64 (-1), .int .i64 5, .int .i64 0, .bool true, .int .i64 0, .int .u64 0] 26)) _ (EnRow.one w1 enX)
  clear b1 a0 x0
  go_wp2_with fail
  refine l2'.mono ?_
  rintro e w2 ⟨rfl, b2⟩
  have B2 := below_nx (B1.alloc B1.size _) b2 (Nat.le_refl _)
  have x2 : EnAt w2 w.heap.size enX := (x1.alloc _).of_block (b2.block _ (x1.alloc _).lt)
  clear c0 c1 c2 c3 c4 c5 c6 c7 c8 c9 c10 c11 c12 x1 b2 B1 l2' l2
  go_wp2_with fail
  refine (l3 w2).mono ?_
  rintro e w3 ⟨v3, rfl, r3, b3⟩
  have B3 := below_nx B2 b3 (Nat.le_refl _)
  have x3 := x2.of_block (b3.block _ x2.lt)
  clear x2 B2 b3 l3
  go_wp2_with fail
  refine (l4 w3).mono ?_
  rintro e w4 ⟨v4, rfl, b4⟩
  have B4 := below_nx B3 b4 (Nat.le_refl _)
  have x4 := x3.of_block (b4.block _ x3.lt)
  have r4 := r3.below b4
  have l5' := l5 (w4.alloc (.cells #[.int .i64 0, .int .u8 0, .int .i64 0, .int .i64 0, .int .i64 0, .int .i64 0, .int .i64 0, .int .i64 0, .int .i64 0, .int .i64 0, .bool false, .int .i64 0, .int .u64 0] 26)) _ (EnRow.one w4 En.zero)
  clear x3 B3 b4 l4 r3 l5
  go_wp2_with fail
  refine l5'.mono ?_
  rintro e w5 ⟨rfl, b5⟩
  have B5 := below_nx (B4.alloc B4.size _) b5 (Nat.le_refl _)
  have x5 : EnAt w5 w.heap.size enX := (x4.alloc _).of_block (b5.block _ (x4.alloc _).lt)
  have r5 : EnRow w5 v3 [enX] := (r4.keep ((But.refl [] w4).alloc _)).below b5
  have c0 : w5.cell? ⟨w.heap.size, 0, none⟩ = some (.int .i64 7) := x5.c0
  have c1 : w5.cell? ⟨w.heap.size, 1, none⟩ = some (.int .u8 3) := x5.c1
  have c2 : w5.cell? ⟨w.heap.size, 2, none⟩ = some (.int .i64 0) := x5.c2
  have c3 : w5.cell? ⟨w.heap.size, 3, none⟩ = some (.int .i64 0) := x5.c3
  have c4 : w5.cell? ⟨w.heap.size, 4, none⟩ = some (.int .i64 2) := x5.c4
  have c5 : w5.cell? ⟨w.heap.size, 5, none⟩ = some (.int .i64 1) := x5.c5
  have c6 : w5.cell? ⟨w.heap.size, 6, none⟩ = some (.int .i64 (-1)) := x5.c6
  have c7 : w5.cell? ⟨w.heap.size, 7, none⟩ = some (.int .i64 (-1)) := x5.c7
  have c8 : w5.cell? ⟨w.heap.size, 8, none⟩ = some (.int .i64 5) := x5.c8
  have c9 : w5.cell? ⟨w.heap.size, 9, none⟩ = some (.int .i64 0) := x5.c9
  have c10 : w5.cell? ⟨w.heap.size, 10, none⟩ = some (.bool true) := x5.c10
  have c11 : w5.cell? ⟨w.heap.size, 11, none⟩ = some (.int .i64 0) := x5.c11
  have c12 : w5.cell? ⟨w.heap.size, 12, none⟩ = some (.int .u64 0) := x5.c12
  have r6 : EnRow (w5.alloc (.cells #[.int .i64 7, .int .u8 3, .int .i64 0, .int .i64 0, .int .i64 2, .int .i64 1, .int .i64 (-1), .int .i64 (-1), .int .i64 5, .int .i64 0, .bool true, .int .i64 0, .int .u64 0] 26)) v3 [enX] := r5.keep ((But.refl [] w5).alloc _)
  have l6' := l6 (w5.alloc (.cells #[.int .i64 7, .int .u8 3, .int .i64 0, .int .i64 0, .int .i64 2, .int .i64 1, .int .i64 (-1), .int .i64 (-1), .int .i64 5, .int .i64 0, .bool true, .int .i64 0, .int .u64 0] 26)) v3 _ r6 (EnRow.one w5 enX)
  clear x4 B4 b5 l5' r4 x5 r5 r6 l6
  go_wp2_with fail
  refine l6'.mono ?_
  rintro e w6 ⟨rfl, b6⟩
  have B6 := below_nx (B5.alloc B5.size _) b6 (Nat.le_refl _)
  clear c0 c1 c2 c3 c4 c5 c6 c7 c8 c9 c10 c11 c12 l6' b6 B5
  go_wp2_with fail
  refine (l7 w6).mono ?_
  rintro e w7 ⟨rfl, rfl⟩
  go_wp2_with fail
  refine (l8 w7).mono ?_
  rintro e w8 ⟨rfl, rfl⟩
  go_wp2_with fail
  refine (l9 w8).mono ?_
  rintro e w9 ⟨rfl, b9⟩
  have B9 := below_nx B6 b9 (Nat.le_refl _)
  go_wp2_with fail
  go_ret
  exact ⟨rfl, B9⟩
end Go.Proofs.YtengpehiknoheaaDoor
