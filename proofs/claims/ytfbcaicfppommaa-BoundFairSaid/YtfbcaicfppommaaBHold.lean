/-
  A size that may be, in naturals; the walks of bound.hold, the document's Hold and May.
-/
import Derived.Test.YtfbcaicfppommaaBSize
namespace Go.Proofs.Ytfbcaicfppommaa
open Go.RowKit

/-- A size that may be. -/
structure Sm (w p t c n q : Nat) : Prop where
  w1 : 1 ≤ w
  w2 : w ≤ 1024
  p1 : 1 ≤ p
  p2 : p ≤ 255
  pw : p ≤ w
  t1 : 1 ≤ t
  t2 : t ≤ 32
  c2 : c ≤ 6
  n1 : 1 ≤ n
  n2 : n ≤ 6
  q1 : 1 ≤ q
  q2 : q ≤ 1000
/-- A size of naturals. -/
def szN (w p t c n q : Nat) : Sz := ⟨w, p, t, c, n, q⟩
theorem sm_of_may {z : Sz} (h : z.may = true) : ∃ w p t c n q : Nat, z = szN w p t c n q ∧ Sm w p t c n q := by
  simp only [Sz.may, Bool.and_eq_true, insB_iff] at h
  obtain ⟨hw, hp, ht, hc, hn, hq⟩ := h
  obtain ⟨W, P, T, C, N, Q⟩ := z
  have hf : few W ≤ 255 ∧ few W ≤ W := by unfold few; split <;> omega
  simp only at hw hp ht hc hn hq hf
  refine ⟨W.toNat, P.toNat, T.toNat, C.toNat, N.toNat, Q.toNat, ?_, by omega, by omega, by omega, by omega, by omega, by omega, by omega, by omega, by omega, by omega, by omega, by omega⟩
  simp only [szN, Sz.mk.injEq]
  refine ⟨?_, ?_, ?_, ?_, ?_, ?_⟩ <;> omega
theorem may_of_sm {w p t c n q : Nat} (h : Sm w p t c n q) : (szN w p t c n q).may = true := by
  obtain ⟨h1, h2, h3, h4, h5, h6, h7, h8, h9, h10, h11, h12⟩ := h
  have hf : (p : Int) ≤ few (w : Int) := by unfold few; split <;> omega
  simp only [Sz.may, Bool.and_eq_true, insB_iff, szN]
  refine ⟨?_, ?_, ?_, ?_, ?_, ?_⟩ <;> omega

theorem hold_eq {t n : Nat} (ht : t ≤ 32) (hn : n ≤ 6) : lid (sumL [lid (mulL [8, t, n]), lid (mulL [8, n]), 40]) = hN t n := by
  have h := hN_le ht hn
  simp only [sumL, mulL, Nat.mul_one, Nat.add_zero]
  rw [lid_add, Nat.add_comm, Nat.add_assoc, lid_add, lid_of_le]
  all_goals (unfold hN at *; rw [← Nat.mul_assoc]; omega)

set_option maxHeartbeats 800000 in
theorem hold_any {w p t c n q : Nat} (h : Sm w p t c n q) (W : World) :
    Calls Try.prog 24 #[(szN w p t c n q).val] W fun e W' => e = .returned (.int .u64 (hN t n : Int)) ∧ But [] W W' := by
  have hZ := szAt_new W (szN w p t c n q)
  have hB : But [] W (W.alloc (szO (szN w p t c n q))) := (But.refl _ _).alloc _
  have HE := Lib.hid (hold_eq h.t2 h.n2)
  have ht := h.t2
  have hn := h.n2
  have et : IntKind.u64.wrap (t : Int) = (t : Int) := wrap_nat (by omega)
  have en : IntKind.u64.wrap (n : Int) = (n : Int) := wrap_nat (by omega)
  clear h
  unfold szO at hZ hB
  unfold Sz.val
  go_enter Try.func24, Try.ntmps24
  go_wp2_with fail
  obtain ⟨B, hBB⟩ : ∃ B, B = W.heap.size := ⟨_, rfl⟩
  rw [← hBB] at hZ ⊢
  clear hBB
  simp only [szN] at hZ hB ⊢
  generalize (W.alloc (.cells #[.int .i64 (w : Int), .int .i64 (p : Int), .int .i64 (t : Int), .int .i64 (c : Int), .int .i64 (n : Int), .int .i64 (q : Int)] 23)) = w0 at hZ hB ⊢
  have c0 : w0.cell? ⟨B, 2, none⟩ = some (.int .i64 (t : Int)) := hZ.cT
  have c1 : w0.cell? ⟨B, 4, none⟩ = some (.int .i64 (n : Int)) := hZ.cN
  clear hZ
  go_quiet (fail)
  go_wp2_with fail
  refine (prod3 8 t n (w0.drewN nq) (by omega) (by omega) (by omega)).mono ?_
  rintro e w1 ⟨rfl, hb1⟩
  have hB := (hB.drewN nq).next hb1
  clear hb1 c0 c1
  go_wp2_with fail
  refine (prod2 8 n w1 (by omega) (by omega)).mono ?_
  rintro e w2 ⟨rfl, hb2⟩
  have hB := hB.next hb2
  clear hb2
  go_wp2_with fail
  refine (sum3 _ _ 40 w2 (lid_le _) (lid_le _) (by omega)).mono ?_
  rintro e w3 ⟨rfl, hb3⟩
  have hB := hB.next hb3
  clear hb3
  go_wp2_with fail
  go_ret
  exact ⟨ret_u64 (by rw [HE.out]), hB⟩

set_option maxHeartbeats 800000 in
theorem rhold_any {w p t c n q : Nat} (h : Sm w p t c n q) (W : World) :
    Calls Try.prog 19 #[(szN w p t c n q).val] W fun e W' => e = .returned (.int .u64 (hN t n : Int)) ∧ But [] W W' := by
  have hZ := szAt_new W (szN w p t c n q)
  have hB : But [] W (W.alloc (szO (szN w p t c n q))) := (But.refl _ _).alloc _
  have ht := h.t2
  have hn := h.n2
  have hle := hN_le ht hn
  have hm : t * n ≤ 32 * 6 := Nat.mul_le_mul ht hn
  have e1 : IntKind.i64.wrap (8 * (t : Int)) = ((8 * t : Nat) : Int) := (IntWalk.i64_in _ (by omega)).trans (by omega)
  have e2 : IntKind.i64.wrap (((8 * t : Nat) : Int) * (n : Int)) = ((8 * t * n : Nat) : Int) := by
    rw [← Int.natCast_mul]
    have : 8 * t * n = 8 * (t * n) := Nat.mul_assoc _ _ _
    exact IntWalk.i64_in _ (by omega)
  have e3 : IntKind.i64.wrap (8 * (n : Int)) = ((8 * n : Nat) : Int) := (IntWalk.i64_in _ (by omega)).trans (by omega)
  have e4 : IntKind.i64.wrap (((8 * t * n : Nat) : Int) + ((8 * n : Nat) : Int)) = ((8 * t * n + 8 * n : Nat) : Int) := (IntWalk.i64_in _ (by unfold hN at hle; omega)).trans (by omega)
  have e5 : IntKind.i64.wrap (((8 * t * n + 8 * n : Nat) : Int) + 40) = ((hN t n : Nat) : Int) := (IntWalk.i64_in _ (by unfold hN at hle; omega)).trans (by unfold hN; omega)
  have e6 : IntKind.u64.wrap ((hN t n : Nat) : Int) = ((hN t n : Nat) : Int) := wrap_nat (by omega)
  generalize 8 * t * n + 8 * n = a4 at e4 e5
  generalize 8 * t * n = a2 at e2 e4
  generalize 8 * t = a1 at e1 e2
  generalize 8 * n = a3 at e3 e4
  obtain ⟨hh, ehh⟩ : ∃ x, x = hN t n := ⟨_, rfl⟩
  rw [← ehh] at e5 e6 ⊢
  clear h hm hle ehh
  unfold szO at hZ hB
  unfold Sz.val
  go_enter Try.func19, Try.ntmps19
  go_wp2_with fail
  obtain ⟨B, hBB⟩ : ∃ B, B = W.heap.size := ⟨_, rfl⟩
  rw [← hBB] at hZ ⊢
  clear hBB
  simp only [szN] at hZ hB ⊢
  generalize (W.alloc (.cells #[.int .i64 (w : Int), .int .i64 (p : Int), .int .i64 (t : Int), .int .i64 (c : Int), .int .i64 (n : Int), .int .i64 (q : Int)] 23)) = w0 at hZ hB ⊢
  have c0 : w0.cell? ⟨B, 2, none⟩ = some (.int .i64 (t : Int)) := hZ.cT
  have c1 : w0.cell? ⟨B, 4, none⟩ = some (.int .i64 (n : Int)) := hZ.cN
  clear hZ
  go_wp2_with fail
  go_ret
  have e1 : wrap64 (8 * (t : Int)) = (a1 : Int) := (IntWalk.i64_left _).symm.trans e1
  have e2 : wrap64 ((a1 : Int) * (n : Int)) = (a2 : Int) := (IntWalk.i64_left _).symm.trans e2
  have e3 : wrap64 (8 * (n : Int)) = (a3 : Int) := (IntWalk.i64_left _).symm.trans e3
  have e4 : wrap64 ((a2 : Int) + (a3 : Int)) = (a4 : Int) := (IntWalk.i64_left _).symm.trans e4
  have e5 : wrap64 ((a4 : Int) + 40) = (hh : Int) := (IntWalk.i64_left _).symm.trans e5
  exact ⟨ret_u64 (by rw [e1, e2, e3, e4, e5, e6]), hB⟩

/-! ### The document's May -/
theorem few_parts (a x : Int) : insB 1 (few x) a = (insB 1 255 a && decide (a ≤ x)) := by
  unfold insB few
  rw [Bool.eq_iff_iff]
  split <;> simp <;> omega
theorem may_parts (z : Sz) : z.may = (insB 1 1024 z.W && (insB 1 255 z.P && (decide (z.P ≤ z.W) && (insB 1 32 z.T && (insB 0 6 z.C && (insB 1 6 z.N && (insB 1 1000 z.Q))))))) := by
  unfold Sz.may
  rw [few_parts]
  simp only [Bool.and_assoc]
theorem ret_may {z : Sz} {b : Bool} (h : z.may = b) : Ending.returned (.bool b) = .returned (.bool z.may) := by rw [h]

set_option maxHeartbeats 3200000 in
theorem rmay_any (z : Sz) (W : World) :
    Calls Try.prog 16 #[z.val] W fun e W' => e = .returned (.bool z.may) ∧ But [] W W' := by
  have hZ := szAt_new W z
  have hB : But [] W (W.alloc (szO z)) := (But.refl _ _).alloc _
  have hmay := Lib.hid (may_parts z)
  unfold szO at hZ hB
  unfold Sz.val
  go_enter Try.func16, Try.ntmps16
  go_wp2_with fail
  obtain ⟨B, hBB⟩ : ∃ B, B = W.heap.size := ⟨_, rfl⟩
  rw [← hBB] at hZ ⊢
  clear hBB
  generalize (W.alloc (.cells #[.int .i64 z.W, .int .i64 z.P, .int .i64 z.T, .int .i64 z.C, .int .i64 z.N, .int .i64 z.Q] 23)) = w0 at hZ hB ⊢
  have cW := hZ.cW
  have cP := hZ.cP
  have cT := hZ.cT
  have cC := hZ.cC
  have cN := hZ.cN
  have cQ := hZ.cQ
  clear hZ
  by_cases h0n : insB 1 1024 z.W = false
  · have h0 := h0n
    clear h0n
    have HM : Hid (z.may = false) := Lib.hid (by rw [hmay.out]; simp only [h0]; rfl)
    clear hmay
    refine (rin_is h0 _).mono ?_
    rintro e wx ⟨rfl, rfl⟩
    go_wp2_with fail
    go_ret
    exact ⟨ret_may HM.out, hB⟩
  have h0 := (Bool.not_eq_false _).mp h0n
  clear h0n
  refine (rin_is h0 _).mono ?_
  rintro e wx ⟨rfl, rfl⟩
  go_wp2_with fail
  by_cases h1n : insB 1 255 z.P = false
  · have h1 := h1n
    clear h1n
    have HM : Hid (z.may = false) := Lib.hid (by rw [hmay.out]; simp only [h0, h1]; rfl)
    clear hmay
    refine (rin_is h1 _).mono ?_
    rintro e wx ⟨rfl, rfl⟩
    go_wp2_with fail
    go_ret
    exact ⟨ret_may HM.out, hB⟩
  have h1 := (Bool.not_eq_false _).mp h1n
  clear h1n
  by_cases h2n : decide (z.P ≤ z.W) = false
  · have h2 := h2n
    clear h2n
    have HM : Hid (z.may = false) := Lib.hid (by rw [hmay.out]; simp only [h0, h1, h2]; rfl)
    clear hmay
    have t2 : ¬ z.P ≤ z.W := of_decide_eq_false h2
    refine (rin_is h1 _).mono ?_
    rintro e wx ⟨rfl, rfl⟩
    go_wp2_with fail
    go_ret
    exact ⟨ret_may HM.out, hB⟩
  have h2 := (Bool.not_eq_false _).mp h2n
  clear h2n
  have t2 : z.P ≤ z.W := of_decide_eq_true h2
  refine (rin_is h1 _).mono ?_
  rintro e wx ⟨rfl, rfl⟩
  go_wp2_with fail
  by_cases h3n : insB 1 32 z.T = false
  · have h3 := h3n
    clear h3n
    have HM : Hid (z.may = false) := Lib.hid (by rw [hmay.out]; simp only [h0, h1, h2, h3]; rfl)
    clear hmay
    refine (rin_is h3 _).mono ?_
    rintro e wx ⟨rfl, rfl⟩
    go_wp2_with fail
    go_ret
    exact ⟨ret_may HM.out, hB⟩
  have h3 := (Bool.not_eq_false _).mp h3n
  clear h3n
  refine (rin_is h3 _).mono ?_
  rintro e wx ⟨rfl, rfl⟩
  go_wp2_with fail
  by_cases h4n : insB 0 6 z.C = false
  · have h4 := h4n
    clear h4n
    have HM : Hid (z.may = false) := Lib.hid (by rw [hmay.out]; simp only [h0, h1, h2, h3, h4]; rfl)
    clear hmay
    refine (rin_is h4 _).mono ?_
    rintro e wx ⟨rfl, rfl⟩
    go_wp2_with fail
    go_ret
    exact ⟨ret_may HM.out, hB⟩
  have h4 := (Bool.not_eq_false _).mp h4n
  clear h4n
  refine (rin_is h4 _).mono ?_
  rintro e wx ⟨rfl, rfl⟩
  go_wp2_with fail
  by_cases h5n : insB 1 6 z.N = false
  · have h5 := h5n
    clear h5n
    have HM : Hid (z.may = false) := Lib.hid (by rw [hmay.out]; simp only [h0, h1, h2, h3, h4, h5]; rfl)
    clear hmay
    refine (rin_is h5 _).mono ?_
    rintro e wx ⟨rfl, rfl⟩
    go_wp2_with fail
    go_ret
    exact ⟨ret_may HM.out, hB⟩
  have h5 := (Bool.not_eq_false _).mp h5n
  clear h5n
  refine (rin_is h5 _).mono ?_
  rintro e wx ⟨rfl, rfl⟩
  go_wp2_with fail
  by_cases h6n : insB 1 1000 z.Q = false
  · have h6 := h6n
    clear h6n
    have HM : Hid (z.may = false) := Lib.hid (by rw [hmay.out]; simp only [h0, h1, h2, h3, h4, h5, h6]; rfl)
    clear hmay
    refine (rin_is h6 _).mono ?_
    rintro e wx ⟨rfl, rfl⟩
    go_wp2_with fail
    go_ret
    exact ⟨ret_may HM.out, hB⟩
  have h6 := (Bool.not_eq_false _).mp h6n
  clear h6n
  refine (rin_is h6 _).mono ?_
  rintro e wx ⟨rfl, rfl⟩
  go_wp2_with fail
  have HM : Hid (z.may = true) := Lib.hid (by rw [hmay.out]; simp only [h0, h1, h2, h3, h4, h5, h6]; rfl)
  clear hmay
  go_ret
  exact ⟨ret_may HM.out, hB⟩
end Go.Proofs.Ytfbcaicfppommaa
