/-
  The walk of InsBack.
-/
import Derived.Test.YthellmecdmolcaaDoorIAlive
namespace Go.Proofs.YthellmecdmolcaaDoor
open Go.RowKit

theorem readV_line {s : List UInt8} (h : readB s = true) : okI (readV s) = true ∧ lineL (readV s) = s := by
  unfold readV
  rw [if_pos h]
  unfold readB at h
  simp only [Bool.and_eq_true, beq_iff_eq] at h
  exact h

set_option maxRecDepth 100000 in
set_option maxHeartbeats 1600000 in
/-- What stands behind the first half: whatever lies below. -/
theorem back_walk (x : In) (hx : x.ok) (l : List UInt8) (w : World) (hv : Vars w) :
    Calls Tryd.prog 4 #[x.val, .string ⟨l.toArray⟩] w fun e w' => e = .returned (.bool true) ∧ Below w.heap.size w w' := by
  obtain ⟨W0, hW0⟩ : ∃ W0, W0 = w.alloc (.cells #[.int .u8 (x.o : Int), .int .i64 x.a, .int .i64 x.b, .int .i64 x.c, .int .i64 x.k] 23) := ⟨_, rfl⟩
  have hb0 : But [] w W0 := by rw [hW0]; exact (But.refl [] w).alloc _
  have hbox : InAt W0 w.heap.size x := by rw [hW0]; exact inAt_new w x
  have hB0 := hb0.below (Nat.le_refl _) (by simp)
  have hln := fun y hy W h => line_any y hy W h
  have hal := fun W h => alive_any W h
  by_cases hbig : 4096 < l.length
  · have hbig' : (4096 : Int) < (l.length : Int) := by omega
    have h1 := hal W0 (hv.below hB0)
    rw [hW0] at h1
    unfold In.val
    clear hln
    go_enter Tryd.func4, Tryd.ntmps4
    go_wp2_with fail
    refine h1.mono ?_
    rw [← hW0]
    rintro e w1 ⟨rfl, b1⟩
    have B1 := below_next hB0 b1 (Nat.le_refl _)
    go_wp2_with fail
    go_ret
    exact ⟨rfl, B1⟩
  have hsm : ¬ (4096 : Int) < (l.length : Int) := by omega
  -- the second half, from whatever world behind the first
  have hrd := fun W h => read_any l (by omega) W h
  have hV := readV_ok l
  have hln2 := fun W h => line_any (readV l) hV W h
  have hx1 := hln x hx W0 (hv.below hB0)
  unfold In.val at hrd hln2 hx1 ⊢
  rw [hW0] at hx1
  -- the first half: read of its own line
  have hfst : okI x = true → ∀ W, Vars W → Calls Tryd.prog 9 #[.string ⟨(lineL x).toArray⟩] W fun e w' => e = .returned (.tuple #[.agg #[.int .u8 (x.o : Int), .int .i64 x.a, .int .i64 x.b, .int .i64 x.c, .int .i64 x.k], .int .i64 0]) ∧ Below W.heap.size W w' := fun h W hW => by
    have h2 := read_any (lineL x) (by have := lineL_len hx; omega) W hW
    obtain ⟨h3, h4⟩ := readB_line parse_itoa hx h
    have e : readE (lineL x) = 0 := by unfold readE; rw [h3]; rfl
    rw [h4, e] at h2
    exact h2
  have HR : Hid (readB l = true ∨ readB l = false) := Lib.hid (by cases readB l <;> simp)
  cases hok : okI x with
  | false =>
    have e1 : lineE x = 2 := by unfold lineE; rw [hok]; rfl
    rw [e1] at hx1
    obtain ⟨t, ht⟩ : ∃ t : ByteArray, t = ⟨(lineV x).toArray⟩ := ⟨_, rfl⟩
    rw [← ht] at hx1
    clear e1 hfst hok ht hln
    cases hrb : readB l with
    | false =>
      have e2 : readV l = In.zero := by unfold readV; rw [hrb]; rfl
      have e3 : readE l = 7 := by unfold readE; rw [hrb]; rfl
      rw [e2, e3] at hrd
      simp only [In.zero] at hrd
      clear e2 e3 hrb hln2 HR hV
      go_enter Tryd.func4, Tryd.ntmps4
      go_wp2_with fail
      refine hx1.mono ?_
      rw [← hW0]
      rintro e w1 ⟨rfl, b1⟩
      have B1 := below_next hB0 b1 (Nat.le_refl _)
      go_wp2_with fail
      refine (hrd _ (hv.below B1)).mono ?_
      rintro e w2 ⟨rfl, b2⟩
      have B2 := below_next B1 b2 (Nat.le_refl _)
      have B2' := fun o => B2.alloc B2.size o
      go_wp2_with fail
      refine (hal _ (hv.below (B2' _))).mono ?_
      rintro e w3 ⟨rfl, b3⟩
      have B3 := below_next (B2' _) b3 (Nat.le_refl _)
      go_wp2_with fail
      go_ret
      exact ⟨rfl, B3⟩
    | true =>
      have e3 : readE l = 0 := by unfold readE; rw [hrb]; rfl
      obtain ⟨h4, h5⟩ := readV_line hrb
      have e4 : lineV (readV l) = l := by unfold lineV; rw [h4, h5]; rfl
      have e5 : lineE (readV l) = 0 := by unfold lineE; rw [h4]; rfl
      rw [e3] at hrd
      rw [e4, e5] at hln2
      obtain ⟨y, hy⟩ : ∃ y, y = readV l := ⟨_, rfl⟩
      rw [← hy] at hrd hln2
      clear e3 e4 e5 h4 h5 hrb hy HR hV
      go_enter Tryd.func4, Tryd.ntmps4
      go_wp2_with fail
      refine hx1.mono ?_
      rw [← hW0]
      rintro e w1 ⟨rfl, b1⟩
      have B1 := below_next hB0 b1 (Nat.le_refl _)
      go_wp2_with fail
      refine (hrd _ (hv.below B1)).mono ?_
      rintro e w2 ⟨rfl, b2⟩
      have B2 := below_next B1 b2 (Nat.le_refl _)
      have B2' := fun o => B2.alloc B2.size o
      go_wp2_with fail
      refine (hln2 _ (hv.below (B2' _))).mono ?_
      rintro e w3 ⟨rfl, b3⟩
      have B3 := below_next (B2' _) b3 (Nat.le_refl _)
      go_wp2_with fail
      refine (hal _ (hv.below B3)).mono ?_
      rintro e w4 ⟨rfl, b4⟩
      have B4 := below_next B3 b4 (Nat.le_refl _)
      go_wp2_with fail
      go_ret
      exact ⟨rfl, B4⟩
  | true =>
    have e0 : lineV x = lineL x := by unfold lineV; rw [hok]; rfl
    have e1 : lineE x = 0 := by unfold lineE; rw [hok]; rfl
    rw [e0, e1] at hx1
    have hf := hfst hok
    obtain ⟨t, ht⟩ : ∃ t : ByteArray, t = ⟨(lineL x).toArray⟩ := ⟨_, rfl⟩
    rw [← ht] at hx1 hf
    clear e0 e1 hfst hok ht hln
    cases hrb : readB l with
    | false =>
      have e2 : readV l = In.zero := by unfold readV; rw [hrb]; rfl
      have e3 : readE l = 7 := by unfold readE; rw [hrb]; rfl
      rw [e2, e3] at hrd
      simp only [In.zero] at hrd
      clear e2 e3 hrb hln2 HR hV
      go_enter Tryd.func4, Tryd.ntmps4
      go_wp2_with fail
      refine hx1.mono ?_
      rw [← hW0]
      rintro e w1 ⟨rfl, b1⟩
      have B1 := below_next hB0 b1 (Nat.le_refl _)
      have i1 := hbox.of_block (b1.block _ hbox.lt)
      go_wp2_with fail
      refine (hf _ (hv.below B1)).mono ?_
      rintro e w2 ⟨rfl, b2⟩
      have B2 := below_next B1 b2 (Nat.le_refl _)
      have i2 := (i1.of_block (b2.block _ i1.lt)).alloc (.cells #[.int .u8 (x.o : Int), .int .i64 x.a, .int .i64 x.b, .int .i64 x.c, .int .i64 x.k] 23)
      have B2' := B2.alloc B2.size (.cells #[.int .u8 (x.o : Int), .int .i64 x.a, .int .i64 x.b, .int .i64 x.c, .int .i64 x.k] 23)
      have y0 := i2.c0
      have y1 := i2.c1
      have y2 := i2.c2
      have y3 := i2.c3
      have y4 := i2.c4
      go_wp2_with fail
      refine (hrd _ (hv.below B2')).mono ?_
      rintro e w3 ⟨rfl, b3⟩
      have B3 := below_next B2' b3 (Nat.le_refl _)
      have B3' := fun o => B3.alloc B3.size o
      go_wp2_with fail
      refine (hal _ (hv.below (B3' _))).mono ?_
      rintro e w4 ⟨rfl, b4⟩
      have B4 := below_next (B3' _) b4 (Nat.le_refl _)
      go_wp2_with fail
      go_ret
      exact ⟨rfl, B4⟩
    | true =>
      have e3 : readE l = 0 := by unfold readE; rw [hrb]; rfl
      obtain ⟨h4, h5⟩ := readV_line hrb
      have e4 : lineV (readV l) = l := by unfold lineV; rw [h4, h5]; rfl
      have e5 : lineE (readV l) = 0 := by unfold lineE; rw [h4]; rfl
      rw [e3] at hrd
      rw [e4, e5] at hln2
      obtain ⟨y, hy⟩ : ∃ y, y = readV l := ⟨_, rfl⟩
      rw [← hy] at hrd hln2
      clear e3 e4 e5 h4 h5 hrb hy HR hV
      go_enter Tryd.func4, Tryd.ntmps4
      go_wp2_with fail
      refine hx1.mono ?_
      rw [← hW0]
      rintro e w1 ⟨rfl, b1⟩
      have B1 := below_next hB0 b1 (Nat.le_refl _)
      have i1 := hbox.of_block (b1.block _ hbox.lt)
      go_wp2_with fail
      refine (hf _ (hv.below B1)).mono ?_
      rintro e w2 ⟨rfl, b2⟩
      have B2 := below_next B1 b2 (Nat.le_refl _)
      have i2 := (i1.of_block (b2.block _ i1.lt)).alloc (.cells #[.int .u8 (x.o : Int), .int .i64 x.a, .int .i64 x.b, .int .i64 x.c, .int .i64 x.k] 23)
      have B2' := B2.alloc B2.size (.cells #[.int .u8 (x.o : Int), .int .i64 x.a, .int .i64 x.b, .int .i64 x.c, .int .i64 x.k] 23)
      have y0 := i2.c0
      have y1 := i2.c1
      have y2 := i2.c2
      have y3 := i2.c3
      have y4 := i2.c4
      go_wp2_with fail
      refine (hrd _ (hv.below B2')).mono ?_
      rintro e w3 ⟨rfl, b3⟩
      have B3 := below_next B2' b3 (Nat.le_refl _)
      have B3' := fun o => B3.alloc B3.size o
      go_wp2_with fail
      refine (hln2 _ (hv.below (B3' _))).mono ?_
      rintro e w4 ⟨rfl, b4⟩
      have B4 := below_next (B3' _) b4 (Nat.le_refl _)
      go_wp2_with fail
      refine (hal _ (hv.below B4)).mono ?_
      rintro e w5 ⟨rfl, b5⟩
      have B5 := below_next B4 b5 (Nat.le_refl _)
      go_wp2_with fail
      go_ret
      exact ⟨rfl, B5⟩
end Go.Proofs.YthellmecdmolcaaDoor
