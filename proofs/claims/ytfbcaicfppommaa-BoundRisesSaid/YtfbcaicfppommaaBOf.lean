/-
  The walks of bound.Hold, Lock and Of.
-/
import Derived.Test.YtfbcaicfppommaaBLocks
namespace Go.Proofs.Ytfbcaicfppommaa
open Go.RowKit

theorem SzAt.cells {W : World} {B : Nat} {z : Sz} (h : SzAt W B z) : W.cell? ⟨B, 0, none⟩ = some (.int .i64 z.W) ∧ W.cell? ⟨B, 1, none⟩ = some (.int .i64 z.P) ∧ W.cell? ⟨B, 2, none⟩ = some (.int .i64 z.T) ∧ W.cell? ⟨B, 3, none⟩ = some (.int .i64 z.C) ∧ W.cell? ⟨B, 4, none⟩ = some (.int .i64 z.N) ∧ W.cell? ⟨B, 5, none⟩ = some (.int .i64 z.Q) := ⟨h.cW, h.cP, h.cT, h.cC, h.cN, h.cQ⟩
theorem check_is {z : Sz} {b : Bool} (h : z.may = b) {x : Int} (hx : x = (if b then 0 else 2)) (w : World) :
    Calls Try.prog 17 #[.agg #[.int .i64 z.W, .int .i64 z.P, .int .i64 z.T, .int .i64 z.C, .int .i64 z.N, .int .i64 z.Q]] w fun e w' => e = .returned (.int .i64 x) ∧ But [] w w' := by
  subst hx
  have := check_any z w
  unfold Sz.check at this
  rw [h] at this
  exact this

/-- The two answers of what is refused. -/
def noV : Value := .tuple #[.int .u64 0, .int .i64 2]

theorem Hold_no {z : Sz} (h : z.may = false) (W : World) :
    Calls Try.prog 8 #[z.val] W fun e W' => e = .returned (.tuple #[.int .u64 0, .int .i64 2]) ∧ But [] W W' := by
  have hZ := szAt_new W z
  have hB : But [] W (W.alloc (szO z)) := (But.refl _ _).alloc _
  have hC := fun w => check_is h (x := 2) rfl w
  unfold szO at hZ hB
  unfold Sz.val
  go_enter Try.func8, Try.ntmps8
  obtain ⟨cW, cP, cT, cC, cN, cQ⟩ := hZ.cells
  go_wp2_with fail
  refine (hC _).mono ?_
  rintro e w1 ⟨rfl, hb1⟩
  have hB := hB.next hb1
  clear hb1 hC cW cP cT cC cN cQ
  go_wp2_with fail
  go_ret2
  exact ⟨rfl, hB⟩
theorem Hold_yes {w p t c n q : Nat} (h : Sm w p t c n q) (W : World) :
    Calls Try.prog 8 #[(szN w p t c n q).val] W fun e W' => e = .returned (.tuple #[.int .u64 (hN t n : Int), .int .i64 0]) ∧ But [] W W' := by
  have hZ := szAt_new W (szN w p t c n q)
  have hB : But [] W (W.alloc (szO (szN w p t c n q))) := (But.refl _ _).alloc _
  have hC := fun w => check_is (may_of_sm h) (x := 0) rfl w
  have hH := fun W => hold_any h W
  unfold szO at hZ hB
  unfold Sz.val at hH ⊢
  simp only [szN] at hZ hB hH hC ⊢
  generalize hN t n = hh at hH ⊢
  go_enter Try.func8, Try.ntmps8
  obtain ⟨cW, cP, cT, cC, cN, cQ⟩ := hZ.cells
  go_wp2_with fail
  refine (hC _).mono ?_
  rintro e w1 ⟨rfl, hb1⟩
  have hB := hB.next hb1
  obtain ⟨cW, cP, cT, cC, cN, cQ⟩ := (hZ.next hb1).cells
  clear hb1 hC hZ
  go_wp2_with fail
  refine (hH _).mono ?_
  rintro e w2 ⟨rfl, hb2⟩
  have hB := hB.next hb2
  clear hb2 hH
  go_wp2_with fail
  go_ret2
  exact ⟨rfl, hB⟩

theorem Lock_no {z : Sz} (h : z.may = false) (i : Int) (W : World) :
    Calls Try.prog 9 #[z.val, .int .i64 i] W fun e W' => e = .returned (.tuple #[.int .u64 0, .int .i64 2]) ∧ But [] W W' := by
  have hZ := szAt_new W z
  have hB : But [] W (W.alloc (szO z)) := (But.refl _ _).alloc _
  have hC := fun w => check_is h (x := 2) rfl w
  unfold szO at hZ hB
  unfold Sz.val
  go_enter Try.func9, Try.ntmps9
  obtain ⟨cW, cP, cT, cC, cN, cQ⟩ := hZ.cells
  go_wp2_with fail
  refine (hC _).mono ?_
  rintro e w1 ⟨rfl, hb1⟩
  have hB := hB.next hb1
  clear hb1 hC cW cP cT cC cN cQ
  go_wp2_with fail
  go_ret2
  exact ⟨rfl, hB⟩
theorem Lock_out {w p t c n q : Nat} (h : Sm w p t c n q) {i : Int} (hi : insB 0 ((c : Int) - 1) i = false) (W : World) :
    Calls Try.prog 9 #[(szN w p t c n q).val, .int .i64 i] W fun e W' => e = .returned (.tuple #[.int .u64 0, .int .i64 2]) ∧ But [] W W' := by
  have hZ := szAt_new W (szN w p t c n q)
  have hB : But [] W (W.alloc (szO (szN w p t c n q))) := (But.refl _ _).alloc _
  have hC := fun w => check_is (may_of_sm h) (x := 0) rfl w
  have hc := h.c2
  unfold szO at hZ hB
  unfold Sz.val
  simp only [szN] at hZ hB hC ⊢
  go_enter Try.func9, Try.ntmps9
  obtain ⟨cW, cP, cT, cC, cN, cQ⟩ := hZ.cells
  go_wp2_with fail
  refine (hC _).mono ?_
  rintro e w1 ⟨rfl, hb1⟩
  have hB := hB.next hb1
  obtain ⟨cW, cP, cT, cC, cN, cQ⟩ := (hZ.next hb1).cells
  clear hb1 hC hZ
  go_wp2_with fail
  refine (within_any 0 ((c : Int) - 1) _).mono ?_
  rintro e w2 ⟨rfl, hP, hQ, hb2⟩
  have hB := hB.next hb2
  clear hb2
  go_wp2_with fail
  refine (in_is hi _ _ _ hP hQ).mono ?_
  rintro e w3 ⟨rfl, rfl⟩
  clear hP hQ
  go_wp2_with fail
  go_ret2
  exact ⟨rfl, hB⟩
set_option maxHeartbeats 800000 in
theorem Lock_yes {w p t c n q : Nat} (h : Sm w p t c n q) {i : Nat} (hi : i < c) (W : World) :
    Calls Try.prog 9 #[(szN w p t c n q).val, .int .i64 (i : Int)] W fun e W' => e = .returned (.tuple #[.int .u64 (lid (lkN p (hN t n) (c - 1 - i)) : Int), .int .i64 0]) ∧ But [] W W' := by
  have hZ := szAt_new W (szN w p t c n q)
  have hB : But [] W (W.alloc (szO (szN w p t c n q))) := (But.refl _ _).alloc _
  have hC := fun w => check_is (may_of_sm h) (x := 0) rfl w
  have hL := fun W => locks_any h W
  have hc := h.c2
  have hin : insB 0 ((c : Int) - 1) (i : Int) = true := insB_iff.2 (by omega)
  have HF : Hid (lockF p (hN t n) c c i = lid (lkN p (hN t n) (c - 1 - i))) := Lib.hid (by unfold lockF; rw [if_pos (by omega)])
  have hi6 : i < 6 := by omega
  have hi6' : (i : Int) < 6 := by omega
  have i0 : (0 : Int) ≤ (i : Int) := by omega
  unfold szO at hZ hB
  unfold Sz.val at hL ⊢
  simp only [szN] at hZ hB hC hL ⊢
  generalize lid (lkN p (hN t n) (c - 1 - i)) = x at HF ⊢
  generalize lockF p (hN t n) c c = f at hL HF
  generalize lid (beh p (hN t n) c) = y at hL
  have H := Lib.hid hi
  clear h hi
  go_enter Try.func9, Try.ntmps9
  obtain ⟨cW, cP, cT, cC, cN, cQ⟩ := hZ.cells
  go_wp2_with fail
  refine (hC _).mono ?_
  rintro e w1 ⟨rfl, hb1⟩
  have hB := hB.next hb1
  have hZ := hZ.next hb1
  obtain ⟨cW, cP, cT, cC, cN, cQ⟩ := hZ.cells
  clear hb1 hC
  go_wp2_with fail
  refine (within_any 0 ((c : Int) - 1) _).mono ?_
  rintro e w2 ⟨rfl, hP, hQ, hb2⟩
  have hB := hB.next hb2
  have hZ := hZ.next hb2
  obtain ⟨cW, cP, cT, cC, cN, cQ⟩ := hZ.cells
  clear hb2
  go_wp2_with fail
  refine (in_is hin _ _ _ hP hQ).mono ?_
  rintro e w3 ⟨rfl, rfl⟩
  clear hP hQ
  go_wp2_with fail
  refine (hL _).mono ?_
  rintro e w4 ⟨rfl, hb4⟩
  have hB := hB.next hb4
  clear hb4 hZ cW cP cT cC cN cQ hL hin
  have hA := arr_new w4
  have hB2 := hB.alloc arrO
  have HA : Hid (W.heap.size ≤ w4.heap.size) := Lib.hid hB.size
  unfold arrO at hA hB2
  generalize hA4 : w4.heap.size = A at hA HA
  go_wp2_with (refine wpList_put rfl _ _ _ rfl A (arrA f) (by rw [← hA4]; rfl) rfl hA szArr rfl (by simp [Value.oneCell', arrA]) ?_; intro w5 E1 E2; have cI := E1.cell (arrA_at f hi6); go_frame)
  go_ret2
  exact ⟨by rw [HF.out]; rfl, hB2.own E2 (by simpa using HA.out)⟩

theorem Of_no {z : Sz} (h : z.may = false) (W : World) :
    Calls Try.prog 7 #[z.val] W fun e W' => e = .returned (.tuple #[.int .u64 0, .int .i64 2]) ∧ But [] W W' := by
  have hZ := szAt_new W z
  have hB : But [] W (W.alloc (szO z)) := (But.refl _ _).alloc _
  have hC := fun w => check_is h (x := 2) rfl w
  unfold szO at hZ hB
  unfold Sz.val
  go_enter Try.func7, Try.ntmps7
  obtain ⟨cW, cP, cT, cC, cN, cQ⟩ := hZ.cells
  go_wp2_with fail
  refine (hC _).mono ?_
  rintro e w1 ⟨rfl, hb1⟩
  have hB := hB.next hb1
  clear hb1 hC cW cP cT cC cN cQ
  go_wp2_with fail
  go_ret2
  exact ⟨rfl, hB⟩

theorem of_s (p : Nat) : lid (sumL [lid (mulL [4, p]), 4]) = lid (4 * p + 4) := by
  simp only [sumL, mulL, Nat.mul_one, Nat.add_zero]; rw [lid_add]
theorem of_i (b h t s : Nat) : lid (sumL [lid b, h, lid (mulL [t + 2, lid s])]) = lid (b + h + (t + 2) * s) := by
  simp only [sumL, mulL, Nat.mul_one, Nat.add_zero]
  rw [lid_mul', lid_add, ← Nat.add_assoc, lid_add']
theorem of_all (w t q i s : Nat) : lid (mulL [w, t + 1, lid (sumL [lid (mulL [q + 2, lid i]), lid (mulL [4, lid s])])]) = lid (w * (t + 1) * ((q + 2) * i + 4 * s)) := by
  simp only [sumL, mulL, Nat.mul_one, Nat.add_zero]
  rw [lid_mul', lid_mul', lid_add, lid_add', ← Nat.mul_assoc, lid_mul']
theorem of_eq (w p t c n q s i : Nat) (hs : s = lid (sumL [lid (mulL [4, p]), 4])) (hi : i = lid (sumL [lid (beh p (hN t n) c), hN t n, lid (mulL [t + 2, s])])) :
    lid (mulL [w, t + 1, lid (sumL [lid (mulL [q + 2, i]), lid (mulL [4, s])])]) = lid (ofN w p t c n q) := by
  rw [of_s] at hs
  subst hs
  rw [of_i] at hi
  subst hi
  rw [of_all]; rfl

set_option maxHeartbeats 1600000 in
theorem Of_yes {w p t c n q : Nat} (h : Sm w p t c n q) (W : World) :
    Calls Try.prog 7 #[(szN w p t c n q).val] W fun e W' => e = .returned (.tuple #[.int .u64 (lid (ofN w p t c n q) : Int), .int .i64 0]) ∧ But [] W W' := by
  have hZ := szAt_new W (szN w p t c n q)
  have hB : But [] W (W.alloc (szO (szN w p t c n q))) := (But.refl _ _).alloc _
  have hC := fun w => check_is (may_of_sm h) (x := 0) rfl w
  have hL := fun W => locks_any h W
  have hH := fun W => hold_any h W
  have HE := Lib.hid (of_eq w p t c n q)
  have hhl := hN_le h.t2 h.n2
  have hw := h.w2
  have hp := h.p2
  have ht := h.t2
  have hq := h.q2
  have ew : IntKind.u64.wrap (w : Int) = (w : Int) := wrap_nat (by omega)
  have ep : IntKind.u64.wrap (p : Int) = (p : Int) := wrap_nat (by omega)
  have et : IntKind.u64.wrap (t : Int) = (t : Int) := wrap_nat (by omega)
  have eq : IntKind.u64.wrap (q : Int) = (q : Int) := wrap_nat (by omega)
  have et2 : IntKind.u64.wrap ((t : Int) + 2) = ((t + 2 : Nat) : Int) := wrap_nat (n := t + 2) (by omega)
  have et1 : IntKind.u64.wrap ((t : Int) + 1) = ((t + 1 : Nat) : Int) := wrap_nat (n := t + 1) (by omega)
  have eq2 : IntKind.u64.wrap ((q : Int) + 2) = ((q + 2 : Nat) : Int) := wrap_nat (n := q + 2) (by omega)
  unfold szO at hZ hB
  unfold Sz.val at hL hH ⊢
  simp only [szN] at hZ hB hC hL hH ⊢
  generalize lockF p (hN t n) c c = f at hL
  obtain ⟨y, hy⟩ : ∃ y, y = lid (beh p (hN t n) c) := ⟨_, rfl⟩
  have hyle : y ≤ 4611686018427387904 := hy ▸ lid_le _
  rw [← hy] at hL HE
  obtain ⟨hh, ehh⟩ : ∃ x, x = hN t n := ⟨_, rfl⟩
  rw [← ehh] at hH HE hhl
  obtain ⟨z, hz⟩ : ∃ z, z = lid (ofN w p t c n q) := ⟨_, rfl⟩
  rw [← hz] at HE ⊢
  clear h hy ehh hz
  go_enter Try.func7, Try.ntmps7
  obtain ⟨cW, cP, cT, cC, cN, cQ⟩ := hZ.cells
  go_wp2_with fail
  refine (hC _).mono ?_
  rintro e w1 ⟨rfl, hb1⟩
  have hB := hB.next hb1
  have hZ := hZ.next hb1
  obtain ⟨cW, cP, cT, cC, cN, cQ⟩ := hZ.cells
  clear hb1 hC
  go_wp2_with fail
  go_quiet (fail)
  go_wp2_with fail
  refine (hL _).mono ?_
  rintro e w2 ⟨rfl, hb2⟩
  have hB := (hB.drewN _).next hb2
  have hZ := hZ.next (((But.refl _ _).drewN _).next hb2)
  clear hb2 hL
  have hA := arr_new w2
  have hlt := hZ.lt
  have hZ := hZ.next ((But.refl [] w2).alloc arrO)
  have hB2 := hB.alloc arrO
  have HA : Hid (W.heap.size ≤ w2.heap.size) := Lib.hid hB.size
  have HZ : Hid (W.heap.size ≠ w2.heap.size) := Lib.hid (Nat.ne_of_lt hlt)
  clear hlt
  unfold arrO at hA hB2 hZ
  generalize hA4 : w2.heap.size = A at hA HA HZ
  go_wp2_with (refine wpList_put rfl _ _ _ rfl A (arrA f) (by rw [← hA4]; rfl) rfl hA szArr rfl (by simp [Value.oneCell', arrA]) ?_; intro w3 E1 E2; obtain ⟨cW, cP, cT, cC, cN, cQ⟩ := (hZ.but E2 (by simpa using HZ.out)).cells; go_frame)
  have hB3 := hB2.own E2 (by simpa using HA.out)
  have hZ3 := hZ.but E2 (by simpa using HZ.out)
  clear hB hB2 hZ hA E1 E2 HA HZ hA4
  refine (prod2 4 p w3 (by omega) (by omega)).mono ?_
  rintro e w4 ⟨rfl, hb⟩
  have hB := hB3.next hb
  have hZ := hZ3.next hb
  clear hb hB3 hZ3 cW cP cT cC cN cQ
  go_wp2_with fail
  have hS := sum2 (lid (mulL [4, p])) 4 w4 (lid_le _) (by omega)
  obtain ⟨s, hs⟩ : ∃ s, s = lid (sumL [lid (mulL [4, p]), 4]) := ⟨_, rfl⟩
  have hsl : s ≤ 4611686018427387904 := hs ▸ lid_le _
  rw [← hs] at hS
  have HE := Lib.hid (HE.out s · hs)
  clear hs
  refine hS.mono ?_
  rintro e w5 ⟨rfl, hb⟩
  have hB := hB.next hb
  obtain ⟨cW, cP, cT, cC, cN, cQ⟩ := (hZ.next hb).cells
  clear hb hS hZ
  go_wp2_with fail
  refine (hH _).mono ?_
  rintro e w6 ⟨rfl, hb⟩
  have hB := hB.next hb
  clear hb hH cW cP cT cC cN cQ
  go_wp2_with fail
  refine (prod2 (t + 2) s w6 (by omega) hsl).mono ?_
  rintro e w7 ⟨rfl, hb⟩
  have hB := hB.next hb
  clear hb
  go_wp2_with fail
  have hS := sum3 y hh (lid (mulL [t + 2, s])) w7 hyle (by omega) (lid_le _)
  obtain ⟨i, hi⟩ : ∃ i, i = lid (sumL [y, hh, lid (mulL [t + 2, s])]) := ⟨_, rfl⟩
  have hil : i ≤ 4611686018427387904 := hi ▸ lid_le _
  rw [← hi] at hS
  have HE := Lib.hid (HE.out i hi)
  clear hi
  refine hS.mono ?_
  rintro e w8 ⟨rfl, hb⟩
  have hB := hB.next hb
  clear hb hS
  go_wp2_with fail
  refine (prod2 (q + 2) i w8 (by omega) hil).mono ?_
  rintro e w9 ⟨rfl, hb⟩
  have hB := hB.next hb
  clear hb
  go_wp2_with fail
  refine (prod2 4 s w9 (by omega) hsl).mono ?_
  rintro e w10 ⟨rfl, hb⟩
  have hB := hB.next hb
  clear hb
  go_wp2_with fail
  refine (sum2 (lid (mulL [q + 2, i])) (lid (mulL [4, s])) w10 (lid_le _) (lid_le _)).mono ?_
  rintro e w11 ⟨rfl, hb⟩
  have hB := hB.next hb
  clear hb
  go_wp2_with fail
  have hP := prod3 w (t + 1) (lid (sumL [lid (mulL [q + 2, i]), lid (mulL [4, s])])) w11 (by omega) (by omega) (lid_le _)
  rw [HE.out] at hP
  refine hP.mono ?_
  rintro e w12 ⟨rfl, hb⟩
  have hB := hB.next hb
  clear hb hP HE
  go_wp2_with fail
  go_ret2
  exact ⟨rfl, hB⟩
end Go.Proofs.Ytfbcaicfppommaa
