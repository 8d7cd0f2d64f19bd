/-
  The walk of InsTells.
-/
import Derived.Test.YthellmecdmolcaaDoorIAlive
import Derived.Test.YthellmecdmolcaaDoorIRefB
import Derived.Test.YthellmecdmolcaaDoorIRefE
namespace Go.Proofs.YthellmecdmolcaaDoor
open Go.RowKit

set_option maxRecDepth 100000 in
set_option maxHeartbeats 3200000 in
theorem tells_walk (x : In) (hx : x.ok) (a b c d : Int) (l : List UInt8) (w : World) (hv : Vars w) :
    Calls Tryd.prog 3 #[x.val, .int .i64 a, .int .i64 b, .int .i64 c, .int .i64 d, .string ⟨l.toArray⟩] w fun e w' => e = .returned (.bool true) ∧ Below w.heap.size w w' := by
  obtain ⟨W0, hW0⟩ : ∃ W0, W0 = w.alloc (.cells #[.int .u8 (x.o : Int), .int .i64 x.a, .int .i64 x.b, .int .i64 x.c, .int .i64 x.k] 23) := ⟨_, rfl⟩
  have hb0 : But [] w W0 := by rw [hW0]; exact (But.refl [] w).alloc _
  have hbox : InAt W0 w.heap.size x := by rw [hW0]; exact inAt_new w x
  have hB0 := hb0.below (Nat.le_refl _) (by simp)
  have hal := fun W h => alive_any W h
  by_cases hbig : 4096 < l.length
  · have hbig' : (4096 : Int) < (l.length : Int) := by omega
    have h1 := hal W0 (hv.below hB0)
    rw [hW0] at h1
    unfold In.val
    go_enter Tryd.func3, Tryd.ntmps3
    go_wp2_with fail
    refine h1.mono ?_
    rw [← hW0]
    rintro e w1 ⟨rfl, b1⟩
    have B1 := below_next hB0 b1 (Nat.le_refl _)
    go_wp2_with fail
    go_ret
    exact ⟨rfl, B1⟩
  have hsm : ¬ (4096 : Int) < (l.length : Int) := by omega
  have hln := line_any x hx W0 (hv.below hB0)
  have hrl := fun W h => refLine_any x hx W h
  have hrd := fun W h => read_any l (by omega) W h
  have hrr := fun W h => refRead_any l (by omega) W h
  obtain ⟨t, ht⟩ : ∃ t : ByteArray, t = ⟨(lineV x).toArray⟩ := ⟨_, rfl⟩
  obtain ⟨e0, he0⟩ : ∃ e, e = lineE x := ⟨_, rfl⟩
  obtain ⟨y, hy⟩ : ∃ y, y = readV l := ⟨_, rfl⟩
  obtain ⟨g0, hg0⟩ : ∃ e, e = readE l := ⟨_, rfl⟩
  rw [← ht, ← he0] at hln hrl
  rw [← hy, ← hg0] at hrd hrr
  have x0 := hbox.c0
  have x1 := hbox.c1
  have x2 := hbox.c2
  have x3 := hbox.c3
  have x4 := hbox.c4
  unfold In.val at hln hrl hrd hrr ⊢
  rw [hW0] at hln x0 x1 x2 x3 x4
  clear ht he0 hy hg0 hbig
  go_enter Tryd.func3, Tryd.ntmps3
  go_wp2_with fail
  refine hln.mono ?_
  rw [← hW0]
  rintro e w1 ⟨rfl, b1⟩
  have B1 := below_next hB0 b1 (Nat.le_refl _)
  have i1 := hbox.of_block (b1.block _ hbox.lt)
  clear hln x0 x1 x2 x3 x4 hW0 hbox hB0 hb0 b1
  have x0 := i1.c0
  have x1 := i1.c1
  have x2 := i1.c2
  have x3 := i1.c3
  have x4 := i1.c4
  go_wp2_with fail
  refine (hrl _ (hv.below B1)).mono ?_
  rintro e w2 ⟨rfl, b2⟩
  have B2 := below_next B1 b2 (Nat.le_refl _)
  have i2 := i1.of_block (b2.block _ i1.lt)
  clear x0 x1 x2 x3 x4 i1 b2 B1 hrl
  go_wp2_with fail
  refine (hrd _ (hv.below B2)).mono ?_
  rintro e w3 ⟨rfl, b3⟩
  have B3 := below_next B2 b3 (Nat.le_refl _)
  have i3 := i2.of_block (b3.block _ i2.lt)
  obtain ⟨w4, hw4⟩ : ∃ W, W = w3.alloc (.cells #[.int .u8 (y.o : Int), .int .i64 y.a, .int .i64 y.b, .int .i64 y.c, .int .i64 y.k] 23) := ⟨_, rfl⟩
  have b4 : But [] w3 w4 := by rw [hw4]; exact (But.refl [] w3).alloc _
  have j4 : InAt w4 w3.heap.size y := by rw [hw4]; exact inAt_new w3 y
  have i4 := i3.of_block (b4.block _ i3.lt (by simp))
  have B4 := below_next B3 (b4.below (Nat.le_refl _) (by simp)) (Nat.le_refl _)
  clear i2 b3 B2 i3 B3 hrd
  have hr4 := hrr w4 (hv.below B4)
  rw [hw4] at hr4
  go_wp2_with fail
  refine hr4.mono ?_
  rw [← hw4]
  rintro e w5 ⟨rfl, b5⟩
  obtain ⟨wf, hwf⟩ : ∃ W, W = w5.alloc (.cells #[.int .u8 (y.o : Int), .int .i64 y.a, .int .i64 y.b, .int .i64 y.c, .int .i64 y.k] 23) := ⟨_, rfl⟩
  have b6 : But [] w5 wf := by rw [hwf]; exact (But.refl [] w5).alloc _
  have k6 : InAt wf w5.heap.size y := by rw [hwf]; exact inAt_new w5 y
  have j6 := (j4.of_block (b5.block _ j4.lt)).of_block (b6.block _ (Nat.lt_of_lt_of_le j4.lt b5.size) (by simp))
  have i6 := (i4.of_block (b5.block _ i4.lt)).of_block (b6.block _ (Nat.lt_of_lt_of_le i4.lt b5.size) (by simp))
  have B6 := below_next (below_next B4 b5 (Nat.le_refl _)) (b6.below (n := w5.heap.size) (Nat.le_refl _) (by simp)) (Nat.le_refl _)
  clear hr4 b4 j4 i4 B4 b5 b6 hrr
  go_upto_region 7 with fail
  rw [← hwf]
  obtain ⟨X, hX⟩ : ∃ X, X = w.heap.size := ⟨_, rfl⟩
  obtain ⟨Y, hY⟩ : ∃ Y, Y = w3.heap.size := ⟨_, rfl⟩
  obtain ⟨Z, hZ⟩ : ∃ Z, Z = w5.heap.size := ⟨_, rfl⟩
  rw [← hX] at i6
  rw [← hY] at j6
  rw [← hZ] at k6
  rw [← hX, ← hY, ← hZ]
  clear hw4 hwf hX hY hZ
  have hX0 : ∀ W, Below wf.heap.size wf W → W.cell? ⟨X, 0, none⟩ = some (.int .u8 (x.o : Int)) := fun W hW => (hW.cell (p := ⟨X, 0, none⟩) i6.lt).trans i6.c0
  have hX1 : ∀ W, Below wf.heap.size wf W → W.cell? ⟨X, 1, none⟩ = some (.int .i64 x.a) := fun W hW => (hW.cell (p := ⟨X, 1, none⟩) i6.lt).trans i6.c1
  have hX2 : ∀ W, Below wf.heap.size wf W → W.cell? ⟨X, 2, none⟩ = some (.int .i64 x.b) := fun W hW => (hW.cell (p := ⟨X, 2, none⟩) i6.lt).trans i6.c2
  have hX3 : ∀ W, Below wf.heap.size wf W → W.cell? ⟨X, 3, none⟩ = some (.int .i64 x.c) := fun W hW => (hW.cell (p := ⟨X, 3, none⟩) i6.lt).trans i6.c3
  have hX4 : ∀ W, Below wf.heap.size wf W → W.cell? ⟨X, 4, none⟩ = some (.int .i64 x.k) := fun W hW => (hW.cell (p := ⟨X, 4, none⟩) i6.lt).trans i6.c4
  have hY0 : ∀ W, Below wf.heap.size wf W → W.cell? ⟨Y, 0, none⟩ = some (.int .u8 (y.o : Int)) := fun W hW => (hW.cell (p := ⟨Y, 0, none⟩) j6.lt).trans j6.c0
  have hY1 : ∀ W, Below wf.heap.size wf W → W.cell? ⟨Y, 1, none⟩ = some (.int .i64 y.a) := fun W hW => (hW.cell (p := ⟨Y, 1, none⟩) j6.lt).trans j6.c1
  have hY2 : ∀ W, Below wf.heap.size wf W → W.cell? ⟨Y, 2, none⟩ = some (.int .i64 y.b) := fun W hW => (hW.cell (p := ⟨Y, 2, none⟩) j6.lt).trans j6.c2
  have hY3 : ∀ W, Below wf.heap.size wf W → W.cell? ⟨Y, 3, none⟩ = some (.int .i64 y.c) := fun W hW => (hW.cell (p := ⟨Y, 3, none⟩) j6.lt).trans j6.c3
  have hY4 : ∀ W, Below wf.heap.size wf W → W.cell? ⟨Y, 4, none⟩ = some (.int .i64 y.k) := fun W hW => (hW.cell (p := ⟨Y, 4, none⟩) j6.lt).trans j6.c4
  have hZ0 : ∀ W, Below wf.heap.size wf W → W.cell? ⟨Z, 0, none⟩ = some (.int .u8 (y.o : Int)) := fun W hW => (hW.cell (p := ⟨Z, 0, none⟩) k6.lt).trans k6.c0
  have hZ1 : ∀ W, Below wf.heap.size wf W → W.cell? ⟨Z, 1, none⟩ = some (.int .i64 y.a) := fun W hW => (hW.cell (p := ⟨Z, 1, none⟩) k6.lt).trans k6.c1
  have hZ2 : ∀ W, Below wf.heap.size wf W → W.cell? ⟨Z, 2, none⟩ = some (.int .i64 y.b) := fun W hW => (hW.cell (p := ⟨Z, 2, none⟩) k6.lt).trans k6.c2
  have hZ3 : ∀ W, Below wf.heap.size wf W → W.cell? ⟨Z, 3, none⟩ = some (.int .i64 y.c) := fun W hW => (hW.cell (p := ⟨Z, 3, none⟩) k6.lt).trans k6.c3
  have hZ4 : ∀ W, Below wf.heap.size wf W → W.cell? ⟨Z, 4, none⟩ = some (.int .i64 y.k) := fun W hW => (hW.cell (p := ⟨Z, 4, none⟩) k6.lt).trans k6.c4
  have hck : ∀ W, Below wf.heap.size wf W → Calls Tryd.prog 11 #[.agg #[.int .u8 (x.o : Int), .int .i64 x.a, .int .i64 x.b, .int .i64 x.c, .int .i64 x.k], .int .i64 a, .int .i64 b, .int .i64 c, .int .i64 d] W fun e w' => e = .returned (.int .i64 (if checkB x a b c d then 0 else 2)) ∧ Below wf.heap.size wf w' := fun W hW => (check_any x hx a b c d W).mono fun e w' ⟨h1, h2⟩ => ⟨h1, below_next hW h2 (Nat.le_refl _)⟩
  have hmy : ∀ W, Below wf.heap.size wf W → Calls Tryd.prog 12 #[.agg #[.int .u8 (x.o : Int), .int .i64 x.a, .int .i64 x.b, .int .i64 x.c, .int .i64 x.k], .int .i64 a, .int .i64 b, .int .i64 c, .int .i64 d] W fun e w' => e = .returned (.bool (checkB x a b c d)) ∧ Below wf.heap.size wf w' := fun W hW => (refMay_any x a b c d W).mono fun e w' ⟨h1, h2⟩ => ⟨h1, below_next hW (h2.below (n := W.heap.size) (Nat.le_refl _) (by simp)) (Nat.le_refl _)⟩
  have hlc : ∀ W, Below wf.heap.size wf W → Calls Tryd.prog 13 #[.int .u8 (x.o : Int)] W fun e w' => e = .returned (.bool (localB x.o)) ∧ w' = W := fun W _ => local_any x.o W
  have hrc : ∀ W, Below wf.heap.size wf W → Calls Tryd.prog 14 #[.int .u8 (x.o : Int)] W fun e w' => e = .returned (.bool (localB x.o)) ∧ w' = W := fun W _ => refLocal_any x.o W
  have hav : ∀ W, Below wf.heap.size wf W → Calls Tryd.prog 6 #[] W fun e w' => e = .returned (.bool true) ∧ Below wf.heap.size wf w' := fun W hW => (alive_any W (hv.below (B6.trans (hW.mono B6.size)))).mono fun e w' ⟨h1, h2⟩ => ⟨h1, below_next hW h2 (Nat.le_refl _)⟩
  have hD0 : Below wf.heap.size wf wf.drew := (Below.refl _ _).drew
  have HB := Lib.hid B6
  clear i6 j6 k6 B6 hv hal hx
  generalize checkB x a b c d = p at hck hmy
  generalize localB x.o = q at hlc hrc
  cases p
  all_goals simp only [if_true, if_false, Bool.false_eq_true] at hck
  all_goals go_region_held3 (fun w' => w'.cell? ⟨X, 0, none⟩ = some (.int .u8 (x.o : Int)) ∧ w'.cell? ⟨X, 1, none⟩ = some (.int .i64 x.a) ∧ w'.cell? ⟨X, 2, none⟩ = some (.int .i64 x.b) ∧ w'.cell? ⟨X, 3, none⟩ = some (.int .i64 x.c) ∧ w'.cell? ⟨X, 4, none⟩ = some (.int .i64 x.k) ∧ w'.cell? ⟨Y, 0, none⟩ = some (.int .u8 (y.o : Int)) ∧ w'.cell? ⟨Y, 1, none⟩ = some (.int .i64 y.a) ∧ w'.cell? ⟨Y, 2, none⟩ = some (.int .i64 y.b) ∧ w'.cell? ⟨Y, 3, none⟩ = some (.int .i64 y.c) ∧ w'.cell? ⟨Y, 4, none⟩ = some (.int .i64 y.k) ∧ w'.cell? ⟨Z, 0, none⟩ = some (.int .u8 (y.o : Int)) ∧ w'.cell? ⟨Z, 1, none⟩ = some (.int .i64 y.a) ∧ w'.cell? ⟨Z, 2, none⟩ = some (.int .i64 y.b) ∧ w'.cell? ⟨Z, 3, none⟩ = some (.int .i64 y.c) ∧ w'.cell? ⟨Z, 4, none⟩ = some (.int .i64 y.k) ∧ Below wf.heap.size wf w')
      (refine ⟨?_, ?_, ?_, ?_, ?_, ?_, ?_, ?_, ?_, ?_, ?_, ?_, ?_, ?_, ?_, ?_⟩ <;> first | assumption | exact hX0 _ (by assumption) | exact hX1 _ (by assumption) | exact hX2 _ (by assumption) | exact hX3 _ (by assumption) | exact hX4 _ (by assumption) | exact hY0 _ (by assumption) | exact hY1 _ (by assumption) | exact hY2 _ (by assumption) | exact hY3 _ (by assumption) | exact hY4 _ (by assumption) | exact hZ0 _ (by assumption) | exact hZ1 _ (by assumption) | exact hZ2 _ (by assumption) | exact hZ3 _ (by assumption) | exact hZ4 _ (by assumption))
      ((first
        | (go_at_call 11; refine (hck _ (by assumption)).mono ?_; rintro e w' ⟨rfl, hb1⟩)
        | (go_at_call 12; refine (hmy _ (by assumption)).mono ?_; rintro e w' ⟨rfl, hb2⟩)
        | (go_at_call 13; refine (hlc _ (by assumption)).mono ?_; rintro e w' ⟨rfl, rfl⟩)
        | (go_at_call 14; refine (hrc _ (by assumption)).mono ?_; rintro e w' ⟨rfl, rfl⟩)
        | (go_at_call 6; refine (hav _ (by assumption)).mono ?_; rintro e w' ⟨rfl, hb3⟩)))
  all_goals go_wp2_with fail
  all_goals go_ret
  all_goals exact ⟨rfl, HB.out.trans (hb3.mono HB.out.size)⟩
end Go.Proofs.YthellmecdmolcaaDoor
