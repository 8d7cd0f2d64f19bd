/-
  The walk of the law BoundRises.
-/
import Derived.Test.YtfbcaicfppommaaBAlive
namespace Go.Proofs.Ytfbcaicfppommaa
open Go.RowKit

/-- A size, with as much more. -/
def moreZ (z d : Sz) : Sz := ⟨wrap64 (z.W + d.W), wrap64 (z.P + d.P), wrap64 (z.T + d.T), wrap64 (z.C + d.C), wrap64 (z.N + d.N), wrap64 (z.Q + d.Q)⟩
theorem more_at {z d : Int} (hz : 0 ≤ z ∧ z ≤ 1024) (hd : I64b d) (h0 : 0 ≤ d) (hy : 0 ≤ wrap64 (z + d)) : z ≤ wrap64 (z + d) := by
  unfold I64b at hd
  unfold wrap64 at hy ⊢
  omega
theorem more_of {w p t c n q : Nat} (hs : Sm w p t c n q) {d : Sz} (hd : d.ok) (h0 : 0 ≤ d.W ∧ 0 ≤ d.P ∧ 0 ≤ d.T ∧ 0 ≤ d.C ∧ 0 ≤ d.N ∧ 0 ≤ d.Q) (hy : (moreZ (szN w p t c n q) d).may = true) :
    ∃ w' p' t' c' n' q' : Nat, moreZ (szN w p t c n q) d = szN w' p' t' c' n' q' ∧ Sm w' p' t' c' n' q' ∧ lid (ofN w p t c n q) ≤ lid (ofN w' p' t' c' n' q') := by
  obtain ⟨w', p', t', c', n', q', e, h'⟩ := sm_of_may hy
  refine ⟨w', p', t', c', n', q', e, h', lid_mono ?_⟩
  simp only [moreZ, szN, Sz.mk.injEq] at e
  obtain ⟨e1, e2, e3, e4, e5, e6⟩ := e
  obtain ⟨a1, a2, a3, a4, a5, a6⟩ := h0
  have b1 := more_at (z := w) (by have := hs.w2; omega) hd.w a1 (by omega)
  have b2 := more_at (z := p) (by have := hs.p2; omega) hd.p a2 (by omega)
  have b3 := more_at (z := t) (by have := hs.t2; omega) hd.t a3 (by omega)
  have b4 := more_at (z := c) (by have := hs.c2; omega) hd.c a4 (by omega)
  have b5 := more_at (z := n) (by have := hs.n2; omega) hd.n a5 (by omega)
  have b6 := more_at (z := q) (by have := hs.q2; omega) hd.q a6 (by omega)
  exact ofN_mono (by omega) (by omega) (by omega) (by omega) (by omega) (by omega)

theorem rises_no (z d : Sz) (h : z.may = false) (w : World) :
    Calls Try.prog 4 #[z.val, d.val] w fun e w' => e = .returned (.bool true) ∧ Below w.heap.size w w' := by
  have hZ := (szAt_new w z).next ((But.refl _ _).alloc (szO d))
  have hB : But [] w ((w.alloc (szO z)).alloc (szO d)) := ((But.refl _ _).alloc _).alloc _
  have hC := fun w => check_is h (x := 2) rfl w
  unfold szO at hZ hB
  unfold Sz.val
  go_enter Try.func4, Try.ntmps4
  obtain ⟨cW, cP, cT, cC, cN, cQ⟩ := hZ.cells
  go_wp2_with fail
  refine (hC _).mono ?_
  rintro e w1 ⟨rfl, hb⟩
  have hB := hB.next hb
  clear hb hC hZ cW cP cT cC cN cQ
  go_wp2_with fail
  refine (alive_any _).mono ?_
  rintro e w2 ⟨rfl, hb⟩
  have hB := hB.next hb
  clear hb
  go_wp2_with fail
  go_ret
  exact ⟨rfl, hB.below (Nat.le_refl _) (by simp)⟩

set_option maxHeartbeats 6400000 in
theorem rises_yes {w p t c n q : Nat} (hs : Sm w p t c n q) (d : Sz) (hd : d.ok) (W : World) :
    Calls Try.prog 4 #[(szN w p t c n q).val, d.val] W fun e W' => e = .returned (.bool true) ∧ Below W.heap.size W W' := by
  have hZ := (szAt_new W (szN w p t c n q)).next ((But.refl _ _).alloc (szO d))
  have hD := szAt_new (W.alloc (szO (szN w p t c n q))) d
  have hB : But [] W ((W.alloc (szO (szN w p t c n q))).alloc (szO d)) := ((But.refl _ _).alloc _).alloc _
  have hC := fun w => check_is (may_of_sm hs) (x := 0) rfl w
  have hO := fun W => Of_yes hs W
  have hLk := fun i hi W => Lock_yes hs (i := i) hi W
  obtain ⟨y, hy⟩ : ∃ y, y = moreZ (szN w p t c n q) d := ⟨_, rfl⟩
  have HM : Hid (0 ≤ d.W ∧ 0 ≤ d.P ∧ 0 ≤ d.T ∧ 0 ≤ d.C ∧ 0 ≤ d.N ∧ 0 ≤ d.Q → y.may = true → ∃ w' p' t' c' n' q' : Nat, y = szN w' p' t' c' n' q' ∧ Sm w' p' t' c' n' q' ∧ lid (ofN w p t c n q) ≤ lid (ofN w' p' t' c' n' q')) := Lib.hid (by rw [hy]; exact more_of hs hd)
  have e0 : wrap64 ((w : Int) + d.W) = y.W := by rw [hy]; rfl
  have e1 : wrap64 ((p : Int) + d.P) = y.P := by rw [hy]; rfl
  have e2 : wrap64 ((t : Int) + d.T) = y.T := by rw [hy]; rfl
  have e3 : wrap64 ((c : Int) + d.C) = y.C := by rw [hy]; rfl
  have e4 : wrap64 ((n : Int) + d.N) = y.N := by rw [hy]; rfl
  have e5 : wrap64 ((q : Int) + d.Q) = y.Q := by rw [hy]; rfl
  clear hy
  have hcc := hs.c2
  have hlo : 1 ≤ lid (ofN w p t c n q) := by have := ofN_pos (w := w) (p := p) (t := t) (c := c) (n := n) (q := q) hs.w1; unfold lid; omega
  have hhi := lid_le (ofN w p t c n q)
  rw [World.size_alloc] at hD
  unfold szO at hZ hB hD
  unfold Sz.val at hO hLk ⊢
  simp only [szN] at hZ hB hD hC hO hLk ⊢
  generalize lid (ofN w p t c n q) = a at hO HM hlo hhi
  generalize hN t n = hh at hLk
  clear hs hd
  go_enter Try.func4, Try.ntmps4
  obtain ⟨cW, cP, cT, cC, cN, cQ⟩ := hZ.cells
  simp only at cW cP cT cC cN cQ
  go_wp2_with fail
  generalize (W.alloc (.cells #[.int .i64 (w : Int), .int .i64 (p : Int), .int .i64 (t : Int), .int .i64 (c : Int), .int .i64 (n : Int), .int .i64 (q : Int)] 23)).alloc (.cells #[.int .i64 d.W, .int .i64 d.P, .int .i64 d.T, .int .i64 d.C, .int .i64 d.N, .int .i64 d.Q] 23) = w0 at hZ hB hD cW cP cT cC cN cQ ⊢
  obtain ⟨B, hBB⟩ : ∃ B, B = W.heap.size := ⟨_, rfl⟩
  rw [← hBB] at hZ hD cW cP cT cC cN cQ ⊢
  clear hBB
  refine (hC _).mono ?_
  rintro e w1 ⟨rfl, hb⟩
  have hB := hB.next hb
  have hZ := hZ.next hb
  have hD := hD.next hb
  obtain ⟨cW, cP, cT, cC, cN, cQ⟩ := hZ.cells
  simp only at cW cP cT cC cN cQ
  obtain ⟨dW, dP, dT, dC, dN, dQ⟩ := hD.cells
  clear hb hC
  have hg := (But.refl [] w1).alloc (szO y)
  have hY := szAt_new w1 y
  have hZ2 := hZ.next hg
  have hD2 := hD.next hg
  have hB2 := hB.next hg
  unfold szO at hY hZ2 hD2 hB2
  obtain ⟨cW2, cP2, cT2, cC2, cN2, cQ2⟩ := hZ2.cells
  simp only at cW2 cP2 cT2 cC2 cN2 cQ2
  clear hZ hD hB hg
  go_wp2_with fail
  obtain ⟨A, hAA⟩ : ∃ A, A = w1.heap.size := ⟨_, rfl⟩
  rw [← hAA] at hY ⊢
  clear hAA cW cP cT cC cN cQ dW dP dT dC dN dQ cW2 cP2 cT2 cC2 cN2 cQ2 e0 e1 e2 e3 e4 e5
  generalize w1.alloc (.cells #[.int .i64 y.W, .int .i64 y.P, .int .i64 y.T, .int .i64 y.C, .int .i64 y.N, .int .i64 y.Q] 23) = w2 at hY hZ2 hD2 hB2 ⊢
  refine (hO _).mono ?_
  rintro e w3 ⟨rfl, hb⟩
  have hB := hB2.next hb
  have hZ := hZ2.next hb
  have hD := hD2.next hb
  have hY := hY.next hb
  clear hb hO hB2 hZ2 hD2
  have ha1 : ¬ (a : Int) < 1 := by omega
  have ha2 : ¬ (4611686018427387904 : Int) < (a : Int) := by omega
  obtain ⟨cW, cP, cT, cC, cN, cQ⟩ := hZ.cells
  simp only at cW cP cT cC cN cQ
  go_wp2_with fail
  go_loopw [8] (fun iv wr => ∃ i : Nat, 1 ≤ i ∧ i ≤ 7 ∧ iv = .int .i64 (i : Int) ∧ But [] W wr ∧ SzAt wr B (szN w p t c n q) ∧ SzAt wr (B + 1) d ∧ SzAt wr A y) (fun iv _ => 8 - (intOf iv).toNat)
  case atStart => exact ⟨1, Nat.le_refl _, by omega, rfl, hB, hZ, hD, hY⟩
  case round =>
    clear hB hZ hD hY cW cP cT cC cN cQ
    obtain ⟨i, hi1, hi7, rfl, hB, hZ, hD, hY⟩ := hrel
    obtain ⟨cW, cP, cT, cC, cN, cQ⟩ := hZ.cells
    simp only [szN] at cW cP cT cC cN cQ
    by_cases hlt : i < c
    · have hlt' : (i : Int) < (c : Int) := by omega
      have i0 : (1 : Int) ≤ (i : Int) := by omega
      have h1 := fun w => hLk i hlt w
      have h2 := fun w => hLk (i - 1) (by omega) w
      rw [show ((i - 1 : Nat) : Int) = (i : Int) - 1 by omega] at h2
      have hbc : lid (lkN p hh (c - 1 - i)) ≤ lid (lkN p hh (c - 1 - (i - 1))) := lid_mono (lkN_mono (by omega))
      generalize lid (lkN p hh (c - 1 - i)) = x1 at h1 hbc
      generalize lid (lkN p hh (c - 1 - (i - 1))) = x2 at h2 hbc
      have hbc' : ¬ (x2 : Int) < (x1 : Int) := by omega
      have HC := Lib.hid hlt
      clear hbc hlt
      go_wp2_with fail
      refine (h1 _).mono ?_
      rintro e w4 ⟨rfl, hb⟩
      have hB := hB.next hb
      have hZ := hZ.next hb
      have hD := hD.next hb
      have hY := hY.next hb
      obtain ⟨cW, cP, cT, cC, cN, cQ⟩ := hZ.cells
      simp only [szN] at cW cP cT cC cN cQ
      clear hb h1
      go_wp2_with fail
      refine (h2 _).mono ?_
      rintro e w5 ⟨rfl, hb⟩
      have hB := hB.next hb
      have hZ := hZ.next hb
      have hD := hD.next hb
      have hY := hY.next hb
      clear hb h2 cW cP cT cC cN cQ
      go_wp2_with fail
      go_roundw
      case rel => exact ⟨i + 1, by omega, by have := HC.out; omega, by go_num, hB, hZ, hD, hY⟩
      case measure => have := HC.out; simp [intOf]; omega
    · have hlt' : ¬ (i : Int) < (c : Int) := by omega
      obtain ⟨dW, dP, dT, dC, dN, dQ⟩ := hD.cells
      clear hLk hZ hlt
      by_cases n0 : d.W < 0
      · clear HM hY hD
        go_wp2_with fail
        refine (alive_any _).mono ?_
        rintro e w9 ⟨rfl, hb⟩
        have hB := hB.next hb
        clear hb
        go_wp2_with fail
        go_ret
        exact ⟨rfl, hB.below (Nat.le_refl _) (by simp)⟩
      by_cases n1 : d.P < 0
      · clear HM hY hD
        go_wp2_with fail
        refine (alive_any _).mono ?_
        rintro e w9 ⟨rfl, hb⟩
        have hB := hB.next hb
        clear hb
        go_wp2_with fail
        go_ret
        exact ⟨rfl, hB.below (Nat.le_refl _) (by simp)⟩
      by_cases n2 : d.T < 0
      · clear HM hY hD
        go_wp2_with fail
        refine (alive_any _).mono ?_
        rintro e w9 ⟨rfl, hb⟩
        have hB := hB.next hb
        clear hb
        go_wp2_with fail
        go_ret
        exact ⟨rfl, hB.below (Nat.le_refl _) (by simp)⟩
      by_cases n3 : d.C < 0
      · clear HM hY hD
        go_wp2_with fail
        refine (alive_any _).mono ?_
        rintro e w9 ⟨rfl, hb⟩
        have hB := hB.next hb
        clear hb
        go_wp2_with fail
        go_ret
        exact ⟨rfl, hB.below (Nat.le_refl _) (by simp)⟩
      by_cases n4 : d.N < 0
      · clear HM hY hD
        go_wp2_with fail
        refine (alive_any _).mono ?_
        rintro e w9 ⟨rfl, hb⟩
        have hB := hB.next hb
        clear hb
        go_wp2_with fail
        go_ret
        exact ⟨rfl, hB.below (Nat.le_refl _) (by simp)⟩
      by_cases n5 : d.Q < 0
      · clear HM hY hD
        go_wp2_with fail
        refine (alive_any _).mono ?_
        rintro e w9 ⟨rfl, hb⟩
        have hB := hB.next hb
        clear hb
        go_wp2_with fail
        go_ret
        exact ⟨rfl, hB.below (Nat.le_refl _) (by simp)⟩
      have HM := Lib.hid (HM.out (by omega))
      obtain ⟨yW, yP, yT, yC, yN, yQ⟩ := hY.cells
      by_cases hy : y.may = true
      · obtain ⟨w', p', t', c', n', q', rfl, hs', hle⟩ := HM.out hy
        have hC := fun w => check_is (may_of_sm hs') (x := 0) rfl w
        have hO := fun W => Of_yes hs' W
        have HL := Lib.hid hle
        unfold Sz.val at hO
        simp only [szN] at hC hO hY yW yP yT yC yN yQ
        generalize lid (ofN w' p' t' c' n' q') = b at hO HL
        clear HM hle hs' hy
        go_wp2_with fail
        refine (hC _).mono ?_
        rintro e w5 ⟨rfl, hb⟩
        have hB := hB.next hb
        obtain ⟨yW, yP, yT, yC, yN, yQ⟩ := (hY.next hb).cells
        simp only at yW yP yT yC yN yQ
        clear hb hC hY
        go_wp2_with fail
        refine (hO _).mono ?_
        rintro e w6 ⟨rfl, hb⟩
        have hB := hB.next hb
        have hab : (a : Int) ≤ (b : Int) := by have := HL.out; omega
        clear hb hO HL yW yP yT yC yN yQ
        go_wp2_with fail
        refine (alive_any _).mono ?_
        rintro e w9 ⟨rfl, hb⟩
        have hB := hB.next hb
        clear hb
        go_wp2_with fail
        go_ret
        exact ⟨rfl, hB.below (Nat.le_refl _) (by simp)⟩
      · have hC := fun w => check_is ((Bool.not_eq_true _).mp hy) (x := 2) rfl w
        clear HM hy
        go_wp2_with fail
        refine (hC _).mono ?_
        rintro e w5 ⟨rfl, hb⟩
        have hB := hB.next hb
        clear hb hC hY yW yP yT yC yN yQ
        go_wp2_with fail
        refine (alive_any _).mono ?_
        rintro e w9 ⟨rfl, hb⟩
        have hB := hB.next hb
        clear hb
        go_wp2_with fail
        go_ret
        exact ⟨rfl, hB.below (Nat.le_refl _) (by simp)⟩
end Go.Proofs.Ytfbcaicfppommaa
