/-
  The walk of the law BoundTells.
-/
import Derived.Test.YtfbcaicfppommaaBAlive
namespace Go.Proofs.Ytfbcaicfppommaa
open Go.RowKit

theorem fair_both (s : ByteArray) (p v : Int) (hs : s.size ≤ 150) (hb : v ≤ 9223372036854775807) :
    ∃ b : Bool, (∀ w, Calls Try.prog 10 #[.string s, .int .i64 p, .int .i64 v] w fun e w' => e = .returned (.bool b) ∧ But [] w w') ∧
      ∀ w, Calls Try.prog 11 #[.string s, .int .i64 p, .int .i64 v] w fun e w' => e = .returned (.bool b) ∧ w' = w := by
  cases h : insB 1 255 p
  · exact ⟨false, fun w => fair_bad s v h w, fun w => rfair_bad s v h w⟩
  · have hh := insB_iff.1 h
    obtain ⟨q, rfl⟩ : ∃ q : Nat, p = (q : Int) := ⟨p.toNat, by omega⟩
    exact ⟨_, fun w => fair_any s q v (by omega) (by omega) (by omega) w, fun w => rfair_any s q v (by omega) (by omega) (by omega) hb w⟩
theorem window_both (s : ByteArray) (p : Int) (hs : s.size ≤ 150) :
    ∃ x : Nat, (∀ w, Calls Try.prog 12 #[.string s, .int .i64 p] w fun e w' => e = .returned (.int .i64 (x : Int)) ∧ But [] w w') ∧
      ∀ w, Calls Try.prog 13 #[.string s, .int .i64 p] w fun e w' => e = .returned (.int .i64 (x : Int)) ∧ w' = w := by
  cases h : insB 1 255 p
  · exact ⟨0, fun w => window_bad s h w, fun w => rwindow_bad s h w⟩
  · have hh := insB_iff.1 h
    obtain ⟨q, rfl⟩ : ∃ q : Nat, p = (q : Int) := ⟨p.toNat, by omega⟩
    exact ⟨_, fun w => window_any s q (by omega) (by omega) (by omega) w, fun w => rwindow_any s q (by omega) (by omega) (by omega) w⟩
theorem round_both (p n : Int) :
    ∃ r : ByteArray, (∀ w, Calls Try.prog 14 #[.int .i64 p, .int .i64 n] w fun e w' => e = .returned (.string r) ∧ But [] w w') ∧
      ∀ w, Calls Try.prog 15 #[.int .i64 p, .int .i64 n] w fun e w' => e = .returned (.string r) ∧ But [] w w' := by
  cases h : insB 1 255 p
  · exact ⟨⟨#[]⟩, fun w => round_no n h w, fun w => rround_no n h w⟩
  · cases h2 : insB 0 1000000 n
    · exact ⟨⟨#[]⟩, fun w => round_out h h2 w, fun w => rround_out h h2 w⟩
    · have hh := insB_iff.1 h
      have hh2 := insB_iff.1 h2
      obtain ⟨q, rfl⟩ : ∃ q : Nat, p = (q : Int) := ⟨p.toNat, by omega⟩
      obtain ⟨m, rfl⟩ : ∃ m : Nat, n = (m : Int) := ⟨n.toNat, by omega⟩
      exact ⟨_, fun w => round_any q m (by omega) (by omega) (by omega) w, fun w => rround_any q m (by omega) (by omega) (by omega) w⟩

theorem tells_big (z : Sz) (i : Int) (s : ByteArray) (p v n : Int) (h : 150 < s.size ∨ 2000 < n ∧ n ≤ 1000000) (W : World) :
    Calls Try.prog 3 #[z.val, .int .i64 i, .string s, .int .i64 p, .int .i64 v, .int .i64 n] W fun e W' => e = .returned (.bool true) ∧ Below W.heap.size W W' := by
  have hB : But [] W (W.alloc (szO z)) := (But.refl _ _).alloc _
  unfold szO at hB
  unfold Sz.val
  go_enter Try.func3, Try.ntmps3
  by_cases hl : 150 < s.size
  · have hl' : (150 : Int) < (s.size : Int) := by omega
    clear h
    go_wp2_with fail
    refine (alive_any _).mono ?_
    rintro e w1 ⟨rfl, hb⟩
    have hB := hB.next hb
    clear hb
    go_wp2_with fail
    go_ret
    exact ⟨rfl, hB.below (Nat.le_refl _) (by simp)⟩
  · have hl' : ¬ (150 : Int) < (s.size : Int) := by omega
    have t1 : decide ((2000 : Int) < n) = true := decide_eq_true (by omega)
    have t2 : decide (n ≤ (1000000 : Int)) = true := decide_eq_true (by omega)
    clear h
    go_wp2_with fail
    refine (alive_any _).mono ?_
    rintro e w1 ⟨rfl, hb⟩
    have hB := hB.next hb
    clear hb
    go_wp2_with fail
    go_ret
    exact ⟨rfl, hB.below (Nat.le_refl _) (by simp)⟩

set_option maxRecDepth 100000 in
set_option maxHeartbeats 6400000 in
theorem tells_no (z : Sz) (hz : z.may = false) (i : Int) (s : ByteArray) (p v n : Int) (hs2 : s.size ≤ 150) (hv : v ≤ 9223372036854775807) (hn : n ≤ 2000 ∨ 1000000 < n) (W : World) :
    Calls Try.prog 3 #[z.val, .int .i64 i, .string s, .int .i64 p, .int .i64 v, .int .i64 n] W fun e W' => e = .returned (.bool true) ∧ Below W.heap.size W W' := by
  have hZ := szAt_new W z
  have hB : But [] W (W.alloc (szO z)) := (But.refl _ _).alloc _
  have hl : ¬ (150 : Int) < (s.size : Int) := by omega
  obtain ⟨b, hF, hRF⟩ := fair_both s p v hs2 hv
  obtain ⟨x, hW, hRW⟩ := window_both s p hs2
  obtain ⟨r, hR, hRR⟩ := round_both p n
  clear hv
  have hO := fun w => Of_no hz w
  have hH := fun w => Hold_no hz w
  have hL := fun w => Lock_no hz i w
  have hC := fun w => check_is hz (x := 2) rfl w
  have hM := fun w => rmay_any z w
  rw [hz] at hM
  unfold szO at hZ hB
  unfold Sz.val at hO hH hL hM ⊢
  go_enter Try.func3, Try.ntmps3
  obtain ⟨cW, cP, cT, cC, cN, cQ⟩ := hZ.cells
  by_cases hn2 : (2000 : Int) < n
  · have t1 : decide ((2000 : Int) < n) = true := decide_eq_true hn2
    have t2 : decide (n ≤ (1000000 : Int)) = false := decide_eq_false (by omega)
    clear hn hn2
    go_wp2_with fail
    refine (hO _).mono ?_
    rintro e w5 ⟨rfl, hb⟩
    have hB := hB.next hb
    have hZ := hZ.next hb
    clear hb hO
    obtain ⟨cW, cP, cT, cC, cN, cQ⟩ := hZ.cells
    go_wp2_with fail
    refine (hH _).mono ?_
    rintro e w5 ⟨rfl, hb⟩
    have hB := hB.next hb
    have hZ := hZ.next hb
    clear hb hH
    obtain ⟨cW, cP, cT, cC, cN, cQ⟩ := hZ.cells
    go_wp2_with fail
    refine (hL _).mono ?_
    rintro e w5 ⟨rfl, hb⟩
    have hB := hB.next hb
    have hZ := hZ.next hb
    clear hb hL
    obtain ⟨cW, cP, cT, cC, cN, cQ⟩ := hZ.cells
    go_wp2_with fail
    refine (hF _).mono ?_
    rintro e w5 ⟨rfl, hb⟩
    have hB := hB.next hb
    have hZ := hZ.next hb
    clear hb hF
    obtain ⟨cW, cP, cT, cC, cN, cQ⟩ := hZ.cells
    go_wp2_with fail
    refine (hRF _).mono ?_
    rintro e w5 ⟨rfl, rfl⟩
    clear hRF
    go_wp2_with fail
    refine (hW _).mono ?_
    rintro e w5 ⟨rfl, hb⟩
    have hB := hB.next hb
    have hZ := hZ.next hb
    clear hb hW
    obtain ⟨cW, cP, cT, cC, cN, cQ⟩ := hZ.cells
    go_wp2_with fail
    refine (hRW _).mono ?_
    rintro e w5 ⟨rfl, rfl⟩
    clear hRW
    go_wp2_with fail
    refine (hR _).mono ?_
    rintro e w5 ⟨rfl, hb⟩
    have hB := hB.next hb
    have hZ := hZ.next hb
    clear hb hR
    obtain ⟨cW, cP, cT, cC, cN, cQ⟩ := hZ.cells
    go_wp2_with fail
    refine (hRR _).mono ?_
    rintro e w5 ⟨rfl, hb⟩
    have hB := hB.next hb
    have hZ := hZ.next hb
    clear hb hRR
    obtain ⟨cW, cP, cT, cC, cN, cQ⟩ := hZ.cells
    go_wp2_with fail
    refine (hM _).mono ?_
    rintro e w5 ⟨rfl, hb⟩
    have hB := hB.next hb
    have hZ := hZ.next hb
    clear hb hM
    obtain ⟨cW, cP, cT, cC, cN, cQ⟩ := hZ.cells
    go_wp2_with fail
    refine (hC _).mono ?_
    rintro e w5 ⟨rfl, hb⟩
    have hB := hB.next hb
    clear hb hC hZ cW cP cT cC cN cQ
    go_wp2_with fail
    refine (alive_any _).mono ?_
    rintro e w9 ⟨rfl, hb⟩
    have hB := hB.next hb
    clear hb
    go_wp2_with fail
    go_ret
    exact ⟨rfl, hB.below (Nat.le_refl _) (by simp)⟩
  · have t1 : decide ((2000 : Int) < n) = false := decide_eq_false hn2
    clear hn hn2
    go_wp2_with fail
    refine (hO _).mono ?_
    rintro e w5 ⟨rfl, hb⟩
    have hB := hB.next hb
    have hZ := hZ.next hb
    clear hb hO
    obtain ⟨cW, cP, cT, cC, cN, cQ⟩ := hZ.cells
    go_wp2_with fail
    refine (hH _).mono ?_
    rintro e w5 ⟨rfl, hb⟩
    have hB := hB.next hb
    have hZ := hZ.next hb
    clear hb hH
    obtain ⟨cW, cP, cT, cC, cN, cQ⟩ := hZ.cells
    go_wp2_with fail
    refine (hL _).mono ?_
    rintro e w5 ⟨rfl, hb⟩
    have hB := hB.next hb
    have hZ := hZ.next hb
    clear hb hL
    obtain ⟨cW, cP, cT, cC, cN, cQ⟩ := hZ.cells
    go_wp2_with fail
    refine (hF _).mono ?_
    rintro e w5 ⟨rfl, hb⟩
    have hB := hB.next hb
    have hZ := hZ.next hb
    clear hb hF
    obtain ⟨cW, cP, cT, cC, cN, cQ⟩ := hZ.cells
    go_wp2_with fail
    refine (hRF _).mono ?_
    rintro e w5 ⟨rfl, rfl⟩
    clear hRF
    go_wp2_with fail
    refine (hW _).mono ?_
    rintro e w5 ⟨rfl, hb⟩
    have hB := hB.next hb
    have hZ := hZ.next hb
    clear hb hW
    obtain ⟨cW, cP, cT, cC, cN, cQ⟩ := hZ.cells
    go_wp2_with fail
    refine (hRW _).mono ?_
    rintro e w5 ⟨rfl, rfl⟩
    clear hRW
    go_wp2_with fail
    refine (hR _).mono ?_
    rintro e w5 ⟨rfl, hb⟩
    have hB := hB.next hb
    have hZ := hZ.next hb
    clear hb hR
    obtain ⟨cW, cP, cT, cC, cN, cQ⟩ := hZ.cells
    go_wp2_with fail
    refine (hRR _).mono ?_
    rintro e w5 ⟨rfl, hb⟩
    have hB := hB.next hb
    have hZ := hZ.next hb
    clear hb hRR
    obtain ⟨cW, cP, cT, cC, cN, cQ⟩ := hZ.cells
    go_wp2_with fail
    refine (hM _).mono ?_
    rintro e w5 ⟨rfl, hb⟩
    have hB := hB.next hb
    have hZ := hZ.next hb
    clear hb hM
    obtain ⟨cW, cP, cT, cC, cN, cQ⟩ := hZ.cells
    go_wp2_with fail
    refine (hC _).mono ?_
    rintro e w5 ⟨rfl, hb⟩
    have hB := hB.next hb
    clear hb hC hZ cW cP cT cC cN cQ
    go_wp2_with fail
    refine (alive_any _).mono ?_
    rintro e w9 ⟨rfl, hb⟩
    have hB := hB.next hb
    clear hb
    go_wp2_with fail
    go_ret
    exact ⟨rfl, hB.below (Nat.le_refl _) (by simp)⟩

set_option maxRecDepth 100000 in
set_option maxHeartbeats 6400000 in
theorem tells_out {w p0 t c n0 q : Nat} (hs : Sm w p0 t c n0 q) {i : Int} (hi : insB 0 ((c : Int) - 1) i = false) (s : ByteArray) (p v n : Int) (hs2 : s.size ≤ 150) (hv : v ≤ 9223372036854775807) (hn : n ≤ 2000 ∨ 1000000 < n) (W : World) :
    Calls Try.prog 3 #[(szN w p0 t c n0 q).val, .int .i64 i, .string s, .int .i64 p, .int .i64 v, .int .i64 n] W fun e W' => e = .returned (.bool true) ∧ Below W.heap.size W W' := by
  have hZ := szAt_new W (szN w p0 t c n0 q)
  have hB : But [] W (W.alloc (szO (szN w p0 t c n0 q))) := (But.refl _ _).alloc _
  have hl : ¬ (150 : Int) < (s.size : Int) := by omega
  obtain ⟨b, hF, hRF⟩ := fair_both s p v hs2 hv
  obtain ⟨x, hW, hRW⟩ := window_both s p hs2
  obtain ⟨r, hR, hRR⟩ := round_both p n
  clear hv
  have hO := fun w => Of_yes hs w
  have hH := fun w => Hold_yes hs w
  have hRO := fun w => rof_any hs w
  have hRH := fun w => rhold_any hs w
  have hC := fun w => check_is (may_of_sm hs) (x := 0) rfl w
  have hM := fun w' => rmay_any (szN w p0 t c n0 q) w'
  rw [may_of_sm hs] at hM
  have hc6 := hs.c2
  have hL := fun w => Lock_out hs hi w
  have hio : i < 0 ∨ (c : Int) ≤ i := by
    apply Classical.byContradiction
    intro hh
    have := insB_iff.2 (show 0 ≤ i ∧ i ≤ (c : Int) - 1 by omega)
    rw [hi] at this; cases this
  unfold szO at hZ hB
  unfold Sz.val at hO hH hL hM hRO hRH ⊢
  simp only [szN] at hZ hB hO hH hL hM hC hRO hRH ⊢
  generalize lid (ofN w p0 t c n0 q) = a at hO hRO
  generalize hN t n0 = hh at hH hRH 
  clear hs
  go_enter Try.func3, Try.ntmps3
  obtain ⟨cW, cP, cT, cC, cN, cQ⟩ := hZ.cells
  simp only at cW cP cT cC cN cQ
  by_cases hn2 : (2000 : Int) < n
  · have t1 : decide ((2000 : Int) < n) = true := decide_eq_true hn2
    have t2 : decide (n ≤ (1000000 : Int)) = false := decide_eq_false (by omega)
    clear hn hn2
    go_wp2_with fail
    refine (hO _).mono ?_
    rintro e w5 ⟨rfl, hb⟩
    have hB := hB.next hb
    have hZ := hZ.next hb
    clear hb hO
    obtain ⟨cW, cP, cT, cC, cN, cQ⟩ := hZ.cells
    simp only at cW cP cT cC cN cQ
    go_wp2_with fail
    refine (hH _).mono ?_
    rintro e w5 ⟨rfl, hb⟩
    have hB := hB.next hb
    have hZ := hZ.next hb
    clear hb hH
    obtain ⟨cW, cP, cT, cC, cN, cQ⟩ := hZ.cells
    simp only at cW cP cT cC cN cQ
    go_wp2_with fail
    refine (hL _).mono ?_
    rintro e w5 ⟨rfl, hb⟩
    have hB := hB.next hb
    have hZ := hZ.next hb
    clear hb hL
    obtain ⟨cW, cP, cT, cC, cN, cQ⟩ := hZ.cells
    simp only at cW cP cT cC cN cQ
    go_wp2_with fail
    refine (hF _).mono ?_
    rintro e w5 ⟨rfl, hb⟩
    have hB := hB.next hb
    have hZ := hZ.next hb
    clear hb hF
    obtain ⟨cW, cP, cT, cC, cN, cQ⟩ := hZ.cells
    simp only at cW cP cT cC cN cQ
    go_wp2_with fail
    refine (hRF _).mono ?_
    rintro e w5 ⟨rfl, rfl⟩
    clear hRF
    go_wp2_with fail
    refine (hW _).mono ?_
    rintro e w5 ⟨rfl, hb⟩
    have hB := hB.next hb
    have hZ := hZ.next hb
    clear hb hW
    obtain ⟨cW, cP, cT, cC, cN, cQ⟩ := hZ.cells
    simp only at cW cP cT cC cN cQ
    go_wp2_with fail
    refine (hRW _).mono ?_
    rintro e w5 ⟨rfl, rfl⟩
    clear hRW
    go_wp2_with fail
    refine (hR _).mono ?_
    rintro e w5 ⟨rfl, hb⟩
    have hB := hB.next hb
    have hZ := hZ.next hb
    clear hb hR
    obtain ⟨cW, cP, cT, cC, cN, cQ⟩ := hZ.cells
    simp only at cW cP cT cC cN cQ
    go_wp2_with fail
    refine (hRR _).mono ?_
    rintro e w5 ⟨rfl, hb⟩
    have hB := hB.next hb
    have hZ := hZ.next hb
    clear hb hRR
    obtain ⟨cW, cP, cT, cC, cN, cQ⟩ := hZ.cells
    simp only at cW cP cT cC cN cQ
    go_wp2_with fail
    refine (hM _).mono ?_
    rintro e w5 ⟨rfl, hb⟩
    have hB := hB.next hb
    have hZ := hZ.next hb
    clear hb hM
    obtain ⟨cW, cP, cT, cC, cN, cQ⟩ := hZ.cells
    simp only at cW cP cT cC cN cQ
    go_wp2_with fail
    refine (hRO _).mono ?_
    rintro e w5 ⟨rfl, hb⟩
    have hB := hB.next hb
    have hZ := hZ.next hb
    clear hb hRO
    obtain ⟨cW, cP, cT, cC, cN, cQ⟩ := hZ.cells
    simp only at cW cP cT cC cN cQ
    go_wp2_with fail
    refine (hRH _).mono ?_
    rintro e w5 ⟨rfl, hb⟩
    have hB := hB.next hb
    have hZ := hZ.next hb
    clear hb hRH
    obtain ⟨cW, cP, cT, cC, cN, cQ⟩ := hZ.cells
    simp only at cW cP cT cC cN cQ
    go_wp2_with fail
    refine (hC _).mono ?_
    rintro e w5 ⟨rfl, hb⟩
    have hB := hB.next hb
    have hZ := hZ.next hb
    clear hb hC
    obtain ⟨cW, cP, cT, cC, cN, cQ⟩ := hZ.cells
    simp only at cW cP cT cC cN cQ
    by_cases hi0 : i < 0
    · clear hio
      go_wp2_with fail
      refine (alive_any _).mono ?_
      rintro e w9 ⟨rfl, hb⟩
      have hB := hB.next hb
      clear hb
      go_wp2_with fail
      go_ret
      exact ⟨rfl, hB.below (Nat.le_refl _) (by simp)⟩
    · have hic : (c : Int) ≤ i := by omega
      clear hio
      go_wp2_with fail
      refine (alive_any _).mono ?_
      rintro e w9 ⟨rfl, hb⟩
      have hB := hB.next hb
      clear hb
      go_wp2_with fail
      go_ret
      exact ⟨rfl, hB.below (Nat.le_refl _) (by simp)⟩
  · have t1 : decide ((2000 : Int) < n) = false := decide_eq_false hn2
    clear hn hn2
    go_wp2_with fail
    refine (hO _).mono ?_
    rintro e w5 ⟨rfl, hb⟩
    have hB := hB.next hb
    have hZ := hZ.next hb
    clear hb hO
    obtain ⟨cW, cP, cT, cC, cN, cQ⟩ := hZ.cells
    simp only at cW cP cT cC cN cQ
    go_wp2_with fail
    refine (hH _).mono ?_
    rintro e w5 ⟨rfl, hb⟩
    have hB := hB.next hb
    have hZ := hZ.next hb
    clear hb hH
    obtain ⟨cW, cP, cT, cC, cN, cQ⟩ := hZ.cells
    simp only at cW cP cT cC cN cQ
    go_wp2_with fail
    refine (hL _).mono ?_
    rintro e w5 ⟨rfl, hb⟩
    have hB := hB.next hb
    have hZ := hZ.next hb
    clear hb hL
    obtain ⟨cW, cP, cT, cC, cN, cQ⟩ := hZ.cells
    simp only at cW cP cT cC cN cQ
    go_wp2_with fail
    refine (hF _).mono ?_
    rintro e w5 ⟨rfl, hb⟩
    have hB := hB.next hb
    have hZ := hZ.next hb
    clear hb hF
    obtain ⟨cW, cP, cT, cC, cN, cQ⟩ := hZ.cells
    simp only at cW cP cT cC cN cQ
    go_wp2_with fail
    refine (hRF _).mono ?_
    rintro e w5 ⟨rfl, rfl⟩
    clear hRF
    go_wp2_with fail
    refine (hW _).mono ?_
    rintro e w5 ⟨rfl, hb⟩
    have hB := hB.next hb
    have hZ := hZ.next hb
    clear hb hW
    obtain ⟨cW, cP, cT, cC, cN, cQ⟩ := hZ.cells
    simp only at cW cP cT cC cN cQ
    go_wp2_with fail
    refine (hRW _).mono ?_
    rintro e w5 ⟨rfl, rfl⟩
    clear hRW
    go_wp2_with fail
    refine (hR _).mono ?_
    rintro e w5 ⟨rfl, hb⟩
    have hB := hB.next hb
    have hZ := hZ.next hb
    clear hb hR
    obtain ⟨cW, cP, cT, cC, cN, cQ⟩ := hZ.cells
    simp only at cW cP cT cC cN cQ
    go_wp2_with fail
    refine (hRR _).mono ?_
    rintro e w5 ⟨rfl, hb⟩
    have hB := hB.next hb
    have hZ := hZ.next hb
    clear hb hRR
    obtain ⟨cW, cP, cT, cC, cN, cQ⟩ := hZ.cells
    simp only at cW cP cT cC cN cQ
    go_wp2_with fail
    refine (hM _).mono ?_
    rintro e w5 ⟨rfl, hb⟩
    have hB := hB.next hb
    have hZ := hZ.next hb
    clear hb hM
    obtain ⟨cW, cP, cT, cC, cN, cQ⟩ := hZ.cells
    simp only at cW cP cT cC cN cQ
    go_wp2_with fail
    refine (hRO _).mono ?_
    rintro e w5 ⟨rfl, hb⟩
    have hB := hB.next hb
    have hZ := hZ.next hb
    clear hb hRO
    obtain ⟨cW, cP, cT, cC, cN, cQ⟩ := hZ.cells
    simp only at cW cP cT cC cN cQ
    go_wp2_with fail
    refine (hRH _).mono ?_
    rintro e w5 ⟨rfl, hb⟩
    have hB := hB.next hb
    have hZ := hZ.next hb
    clear hb hRH
    obtain ⟨cW, cP, cT, cC, cN, cQ⟩ := hZ.cells
    simp only at cW cP cT cC cN cQ
    go_wp2_with fail
    refine (hC _).mono ?_
    rintro e w5 ⟨rfl, hb⟩
    have hB := hB.next hb
    have hZ := hZ.next hb
    clear hb hC
    obtain ⟨cW, cP, cT, cC, cN, cQ⟩ := hZ.cells
    simp only at cW cP cT cC cN cQ
    by_cases hi0 : i < 0
    · clear hio
      go_wp2_with fail
      refine (alive_any _).mono ?_
      rintro e w9 ⟨rfl, hb⟩
      have hB := hB.next hb
      clear hb
      go_wp2_with fail
      go_ret
      exact ⟨rfl, hB.below (Nat.le_refl _) (by simp)⟩
    · have hic : (c : Int) ≤ i := by omega
      clear hio
      go_wp2_with fail
      refine (alive_any _).mono ?_
      rintro e w9 ⟨rfl, hb⟩
      have hB := hB.next hb
      clear hb
      go_wp2_with fail
      go_ret
      exact ⟨rfl, hB.below (Nat.le_refl _) (by simp)⟩

set_option maxRecDepth 100000 in
set_option maxHeartbeats 6400000 in
theorem tells_in {w p0 t c n0 q : Nat} (hs : Sm w p0 t c n0 q) {i : Nat} (hi : i < c) (s : ByteArray) (p v n : Int) (hs2 : s.size ≤ 150) (hv : v ≤ 9223372036854775807) (hn : n ≤ 2000 ∨ 1000000 < n) (W : World) :
    Calls Try.prog 3 #[(szN w p0 t c n0 q).val, .int .i64 (i : Int), .string s, .int .i64 p, .int .i64 v, .int .i64 n] W fun e W' => e = .returned (.bool true) ∧ Below W.heap.size W W' := by
  have hZ := szAt_new W (szN w p0 t c n0 q)
  have hB : But [] W (W.alloc (szO (szN w p0 t c n0 q))) := (But.refl _ _).alloc _
  have hl : ¬ (150 : Int) < (s.size : Int) := by omega
  obtain ⟨b, hF, hRF⟩ := fair_both s p v hs2 hv
  obtain ⟨x, hW, hRW⟩ := window_both s p hs2
  obtain ⟨r, hR, hRR⟩ := round_both p n
  clear hv
  have hO := fun w => Of_yes hs w
  have hH := fun w => Hold_yes hs w
  have hRO := fun w => rof_any hs w
  have hRH := fun w => rhold_any hs w
  have hC := fun w => check_is (may_of_sm hs) (x := 0) rfl w
  have hM := fun w' => rmay_any (szN w p0 t c n0 q) w'
  rw [may_of_sm hs] at hM
  have hc6 := hs.c2
  have hL := fun w => Lock_yes hs hi w
  have hRL := fun w => rlocks_any hs w
  have HX : Hid (lockF p0 (hN t n0) c c i = lid (lkN p0 (hN t n0) (c - 1 - i))) := Lib.hid (by unfold lockF; rw [if_pos (by omega)])
  generalize lid (lkN p0 (hN t n0) (c - 1 - i)) = l at hL HX
  have i0 : (0 : Int) ≤ (i : Int) := by omega
  have ic : (i : Int) < (c : Int) := by omega
  unfold szO at hZ hB
  unfold Sz.val at hO hH hL hM hRO hRH hRL ⊢
  simp only [szN] at hZ hB hO hH hL hM hC hRO hRH hRL ⊢
  generalize lid (ofN w p0 t c n0 q) = a at hO hRO
  generalize hN t n0 = hh at hH hRH hRL HX
  clear hs
  go_enter Try.func3, Try.ntmps3
  obtain ⟨cW, cP, cT, cC, cN, cQ⟩ := hZ.cells
  simp only at cW cP cT cC cN cQ
  by_cases hn2 : (2000 : Int) < n
  · have t1 : decide ((2000 : Int) < n) = true := decide_eq_true hn2
    have t2 : decide (n ≤ (1000000 : Int)) = false := decide_eq_false (by omega)
    clear hn hn2
    go_wp2_with fail
    refine (hO _).mono ?_
    rintro e w5 ⟨rfl, hb⟩
    have hB := hB.next hb
    have hZ := hZ.next hb
    clear hb hO
    obtain ⟨cW, cP, cT, cC, cN, cQ⟩ := hZ.cells
    simp only at cW cP cT cC cN cQ
    go_wp2_with fail
    refine (hH _).mono ?_
    rintro e w5 ⟨rfl, hb⟩
    have hB := hB.next hb
    have hZ := hZ.next hb
    clear hb hH
    obtain ⟨cW, cP, cT, cC, cN, cQ⟩ := hZ.cells
    simp only at cW cP cT cC cN cQ
    go_wp2_with fail
    refine (hL _).mono ?_
    rintro e w5 ⟨rfl, hb⟩
    have hB := hB.next hb
    have hZ := hZ.next hb
    clear hb hL
    obtain ⟨cW, cP, cT, cC, cN, cQ⟩ := hZ.cells
    simp only at cW cP cT cC cN cQ
    go_wp2_with fail
    refine (hF _).mono ?_
    rintro e w5 ⟨rfl, hb⟩
    have hB := hB.next hb
    have hZ := hZ.next hb
    clear hb hF
    obtain ⟨cW, cP, cT, cC, cN, cQ⟩ := hZ.cells
    simp only at cW cP cT cC cN cQ
    go_wp2_with fail
    refine (hRF _).mono ?_
    rintro e w5 ⟨rfl, rfl⟩
    clear hRF
    go_wp2_with fail
    refine (hW _).mono ?_
    rintro e w5 ⟨rfl, hb⟩
    have hB := hB.next hb
    have hZ := hZ.next hb
    clear hb hW
    obtain ⟨cW, cP, cT, cC, cN, cQ⟩ := hZ.cells
    simp only at cW cP cT cC cN cQ
    go_wp2_with fail
    refine (hRW _).mono ?_
    rintro e w5 ⟨rfl, rfl⟩
    clear hRW
    go_wp2_with fail
    refine (hR _).mono ?_
    rintro e w5 ⟨rfl, hb⟩
    have hB := hB.next hb
    have hZ := hZ.next hb
    clear hb hR
    obtain ⟨cW, cP, cT, cC, cN, cQ⟩ := hZ.cells
    simp only at cW cP cT cC cN cQ
    go_wp2_with fail
    refine (hRR _).mono ?_
    rintro e w5 ⟨rfl, hb⟩
    have hB := hB.next hb
    have hZ := hZ.next hb
    clear hb hRR
    obtain ⟨cW, cP, cT, cC, cN, cQ⟩ := hZ.cells
    simp only at cW cP cT cC cN cQ
    go_wp2_with fail
    refine (hM _).mono ?_
    rintro e w5 ⟨rfl, hb⟩
    have hB := hB.next hb
    have hZ := hZ.next hb
    clear hb hM
    obtain ⟨cW, cP, cT, cC, cN, cQ⟩ := hZ.cells
    simp only at cW cP cT cC cN cQ
    go_wp2_with fail
    refine (hRO _).mono ?_
    rintro e w5 ⟨rfl, hb⟩
    have hB := hB.next hb
    have hZ := hZ.next hb
    clear hb hRO
    obtain ⟨cW, cP, cT, cC, cN, cQ⟩ := hZ.cells
    simp only at cW cP cT cC cN cQ
    go_wp2_with fail
    refine (hRH _).mono ?_
    rintro e w5 ⟨rfl, hb⟩
    have hB := hB.next hb
    have hZ := hZ.next hb
    clear hb hRH
    obtain ⟨cW, cP, cT, cC, cN, cQ⟩ := hZ.cells
    simp only at cW cP cT cC cN cQ
    go_wp2_with fail
    refine (hC _).mono ?_
    rintro e w5 ⟨rfl, hb⟩
    have hB := hB.next hb
    have hZ := hZ.next hb
    clear hb hC
    obtain ⟨cW, cP, cT, cC, cN, cQ⟩ := hZ.cells
    simp only at cW cP cT cC cN cQ
    go_wp2_with fail
    refine (hRL _).mono ?_
    rintro e w5 ⟨V, rfl, hV, -, hb⟩
    have hB := hB.next hb
    have hci := ArrU.at hV (k := i) (by rw [rowF_len]; exact hi)
    rw [rowF_at _ _ hi, HX.out] at hci
    clear hb hRL hV HX hZ cW cP cT cC cN cQ
    go_wp2_with fail
    refine (alive_any _).mono ?_
    rintro e w9 ⟨rfl, hb⟩
    have hB := hB.next hb
    clear hb
    go_wp2_with fail
    go_ret
    exact ⟨rfl, hB.below (Nat.le_refl _) (by simp)⟩
  · have t1 : decide ((2000 : Int) < n) = false := decide_eq_false hn2
    clear hn hn2
    go_wp2_with fail
    refine (hO _).mono ?_
    rintro e w5 ⟨rfl, hb⟩
    have hB := hB.next hb
    have hZ := hZ.next hb
    clear hb hO
    obtain ⟨cW, cP, cT, cC, cN, cQ⟩ := hZ.cells
    simp only at cW cP cT cC cN cQ
    go_wp2_with fail
    refine (hH _).mono ?_
    rintro e w5 ⟨rfl, hb⟩
    have hB := hB.next hb
    have hZ := hZ.next hb
    clear hb hH
    obtain ⟨cW, cP, cT, cC, cN, cQ⟩ := hZ.cells
    simp only at cW cP cT cC cN cQ
    go_wp2_with fail
    refine (hL _).mono ?_
    rintro e w5 ⟨rfl, hb⟩
    have hB := hB.next hb
    have hZ := hZ.next hb
    clear hb hL
    obtain ⟨cW, cP, cT, cC, cN, cQ⟩ := hZ.cells
    simp only at cW cP cT cC cN cQ
    go_wp2_with fail
    refine (hF _).mono ?_
    rintro e w5 ⟨rfl, hb⟩
    have hB := hB.next hb
    have hZ := hZ.next hb
    clear hb hF
    obtain ⟨cW, cP, cT, cC, cN, cQ⟩ := hZ.cells
    simp only at cW cP cT cC cN cQ
    go_wp2_with fail
    refine (hRF _).mono ?_
    rintro e w5 ⟨rfl, rfl⟩
    clear hRF
    go_wp2_with fail
    refine (hW _).mono ?_
    rintro e w5 ⟨rfl, hb⟩
    have hB := hB.next hb
    have hZ := hZ.next hb
    clear hb hW
    obtain ⟨cW, cP, cT, cC, cN, cQ⟩ := hZ.cells
    simp only at cW cP cT cC cN cQ
    go_wp2_with fail
    refine (hRW _).mono ?_
    rintro e w5 ⟨rfl, rfl⟩
    clear hRW
    go_wp2_with fail
    refine (hR _).mono ?_
    rintro e w5 ⟨rfl, hb⟩
    have hB := hB.next hb
    have hZ := hZ.next hb
    clear hb hR
    obtain ⟨cW, cP, cT, cC, cN, cQ⟩ := hZ.cells
    simp only at cW cP cT cC cN cQ
    go_wp2_with fail
    refine (hRR _).mono ?_
    rintro e w5 ⟨rfl, hb⟩
    have hB := hB.next hb
    have hZ := hZ.next hb
    clear hb hRR
    obtain ⟨cW, cP, cT, cC, cN, cQ⟩ := hZ.cells
    simp only at cW cP cT cC cN cQ
    go_wp2_with fail
    refine (hM _).mono ?_
    rintro e w5 ⟨rfl, hb⟩
    have hB := hB.next hb
    have hZ := hZ.next hb
    clear hb hM
    obtain ⟨cW, cP, cT, cC, cN, cQ⟩ := hZ.cells
    simp only at cW cP cT cC cN cQ
    go_wp2_with fail
    refine (hRO _).mono ?_
    rintro e w5 ⟨rfl, hb⟩
    have hB := hB.next hb
    have hZ := hZ.next hb
    clear hb hRO
    obtain ⟨cW, cP, cT, cC, cN, cQ⟩ := hZ.cells
    simp only at cW cP cT cC cN cQ
    go_wp2_with fail
    refine (hRH _).mono ?_
    rintro e w5 ⟨rfl, hb⟩
    have hB := hB.next hb
    have hZ := hZ.next hb
    clear hb hRH
    obtain ⟨cW, cP, cT, cC, cN, cQ⟩ := hZ.cells
    simp only at cW cP cT cC cN cQ
    go_wp2_with fail
    refine (hC _).mono ?_
    rintro e w5 ⟨rfl, hb⟩
    have hB := hB.next hb
    have hZ := hZ.next hb
    clear hb hC
    obtain ⟨cW, cP, cT, cC, cN, cQ⟩ := hZ.cells
    simp only at cW cP cT cC cN cQ
    go_wp2_with fail
    refine (hRL _).mono ?_
    rintro e w5 ⟨V, rfl, hV, -, hb⟩
    have hB := hB.next hb
    have hci := ArrU.at hV (k := i) (by rw [rowF_len]; exact hi)
    rw [rowF_at _ _ hi, HX.out] at hci
    clear hb hRL hV HX hZ cW cP cT cC cN cQ
    go_wp2_with fail
    refine (alive_any _).mono ?_
    rintro e w9 ⟨rfl, hb⟩
    have hB := hB.next hb
    clear hb
    go_wp2_with fail
    go_ret
    exact ⟨rfl, hB.below (Nat.le_refl _) (by simp)⟩

theorem tells_any (z : Sz) (i : Int) (s : ByteArray) (p v n : Int) (hv : v ≤ 9223372036854775807) (W : World) :
    Calls Try.prog 3 #[z.val, .int .i64 i, .string s, .int .i64 p, .int .i64 v, .int .i64 n] W fun e W' => e = .returned (.bool true) ∧ Below W.heap.size W W' := by
  by_cases hbig : 150 < s.size ∨ 2000 < n ∧ n ≤ 1000000
  · exact tells_big z i s p v n hbig W
  cases hz : z.may
  · exact tells_no z hz i s p v n (by omega) hv (by omega) W
  · obtain ⟨w, p0, t, c, n0, q, rfl, hs⟩ := sm_of_may hz
    cases hi : insB 0 ((c : Int) - 1) i
    · exact tells_out hs hi s p v n (by omega) hv (by omega) W
    · have hh := insB_iff.1 hi
      obtain ⟨j, rfl⟩ : ∃ j : Nat, i = (j : Int) := ⟨i.toNat, by omega⟩
      exact tells_in hs (by omega) s p v n (by omega) hv (by omega) W
end Go.Proofs.Ytfbcaicfppommaa
