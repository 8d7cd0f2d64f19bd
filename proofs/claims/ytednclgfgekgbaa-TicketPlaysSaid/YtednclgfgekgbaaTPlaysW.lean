/-
  The walk of the law TicketPlays, whatever comes in.
-/
import Derived.Test.YtednclgfgekgbaaTPlays
namespace Go.Proofs.Ytednclgfgekgbaa
open Go.RowKit

set_option maxRecDepth 100000 in
set_option maxHeartbeats 400000 in
theorem plays_big (p q k : Int) (a : Option Addr) (n cap : Nat) (w : World) (hn : 200 < n) :
    Calls Try.prog 3 #[.int .i64 p, .int .i64 q, .slice a n cap, .int .i64 k] w fun e w' => e = .returned (.bool true) ∧ Below w.heap.size w w' := by
  have hl2 : (200 : Int) < (n : Int) := by omega
  go_enter Try.func3, Try.ntmps3
  go_wp2_with fail
  refine (alive_any _).mono ?_
  rintro e w1 ⟨rfl, hb⟩
  go_wp2_with fail
  go_ret
  exact ⟨rfl, hb⟩

set_option maxRecDepth 100000 in
set_option maxHeartbeats 1600000 in
theorem plays_bad1 (p q k : Int) (a : Option Addr) (n cap : Nat) (w : World) (hl2 : ¬ (200 : Int) < (n : Int)) (hp1 : -9223372036854775808 ≤ p) (hp2 : p ≤ 9223372036854775807) (hq1 : -9223372036854775808 ≤ q) (hq2 : q ≤ 9223372036854775807) (c1 : q < 1) :
    Calls Try.prog 3 #[.int .i64 p, .int .i64 q, .slice a n cap, .int .i64 k] w fun e w' => e = .returned (.bool true) ∧ Below w.heap.size w w' := by
  have t1 : decide (q < 1) = true := decide_eq_true c1
  go_enter Try.func3, Try.ntmps3
  go_wp2_with fail
  refine (give_none _ _ (cells_nil _ _)).mono ?_
  rintro e w ⟨rfl, rfl⟩
  go_wp2_with fail
  refine (cell_new_at (n := 20) _ (Lib.hid rfl) (by omega) (by omega)).mono ?_
  rintro e w1 ⟨B, V, rfl, hC, hV, hB, hz⟩
  have hvl : (List.replicate 20 0).length = 20 := by simp
  obtain ⟨vs, hvs⟩ : ∃ vs, vs = List.replicate 20 0 := ⟨_, rfl⟩
  rw [← hvs] at hC hvl
  go_wp2_with fail
  refine (draw_none _ _ (cells_nil _ _)).mono ?_
  rintro e w1 ⟨rfl, rfl⟩
  go_wp2_with fail
  refine (mine_none _ _ _ (cells_nil _ _)).mono ?_
  rintro e w1 ⟨rfl, rfl⟩
  go_wp2_with fail
  refine (free_none _ _ (cells_nil _ _)).mono ?_
  rintro e w1 ⟨rfl, rfl⟩
  go_wp2_with fail
  refine (wait_none _ _ (cells_nil _ _)).mono ?_
  rintro e w1 ⟨rfl, rfl⟩
  go_wp2_with fail
  refine (tlen_nil _).mono ?_
  rintro e w1 ⟨rfl, rfl⟩
  have HV := Lib.hid hvl
  clear hvl
  go_wp2_with fail
  refine (tnew_bad _ hC hp1 hp2 hq1 hq2 (by rw [HV.out]; omega)).mono ?_
  rintro e w2 ⟨rfl, hg⟩
  have hz2 := hz.next hg
  clear hC hg hz HV hvs
  go_wp2_with fail
  refine (alive_any _).mono ?_
  rintro e wz ⟨rfl, hbz⟩
  have hB' : Below w.heap.size w wz := (hz2.below (Nat.le_refl _) (by simp)).trans (hbz.mono hz2.size)
  clear hz2 hbz
  go_wp2_with fail
  go_ret
  exact ⟨rfl, hB'⟩

set_option maxRecDepth 100000 in
set_option maxHeartbeats 1600000 in
theorem plays_bad2 (p q k : Int) (a : Option Addr) (n cap : Nat) (w : World) (hl2 : ¬ (200 : Int) < (n : Int)) (hp1 : -9223372036854775808 ≤ p) (hp2 : p ≤ 9223372036854775807) (hq1 : -9223372036854775808 ≤ q) (hq2 : q ≤ 9223372036854775807) (t1 : decide (q < 1) = false) (c2 : 10 < q) :
    Calls Try.prog 3 #[.int .i64 p, .int .i64 q, .slice a n cap, .int .i64 k] w fun e w' => e = .returned (.bool true) ∧ Below w.heap.size w w' := by
  have t2 : decide (10 < q) = true := decide_eq_true c2
  go_enter Try.func3, Try.ntmps3
  go_wp2_with fail
  refine (give_none _ _ (cells_nil _ _)).mono ?_
  rintro e w ⟨rfl, rfl⟩
  go_wp2_with fail
  refine (cell_new_at (n := 20) _ (Lib.hid rfl) (by omega) (by omega)).mono ?_
  rintro e w1 ⟨B, V, rfl, hC, hV, hB, hz⟩
  have hvl : (List.replicate 20 0).length = 20 := by simp
  obtain ⟨vs, hvs⟩ : ∃ vs, vs = List.replicate 20 0 := ⟨_, rfl⟩
  rw [← hvs] at hC hvl
  go_wp2_with fail
  refine (draw_none _ _ (cells_nil _ _)).mono ?_
  rintro e w1 ⟨rfl, rfl⟩
  go_wp2_with fail
  refine (mine_none _ _ _ (cells_nil _ _)).mono ?_
  rintro e w1 ⟨rfl, rfl⟩
  go_wp2_with fail
  refine (free_none _ _ (cells_nil _ _)).mono ?_
  rintro e w1 ⟨rfl, rfl⟩
  go_wp2_with fail
  refine (wait_none _ _ (cells_nil _ _)).mono ?_
  rintro e w1 ⟨rfl, rfl⟩
  go_wp2_with fail
  refine (tlen_nil _).mono ?_
  rintro e w1 ⟨rfl, rfl⟩
  have HV := Lib.hid hvl
  clear hvl
  go_wp2_with fail
  refine (tnew_bad _ hC hp1 hp2 hq1 hq2 (by rw [HV.out]; omega)).mono ?_
  rintro e w2 ⟨rfl, hg⟩
  have hz2 := hz.next hg
  clear hC hg hz HV hvs
  go_wp2_with fail
  refine (alive_any _).mono ?_
  rintro e wz ⟨rfl, hbz⟩
  have hB' : Below w.heap.size w wz := (hz2.below (Nat.le_refl _) (by simp)).trans (hbz.mono hz2.size)
  clear hz2 hbz
  go_wp2_with fail
  go_ret
  exact ⟨rfl, hB'⟩

set_option maxRecDepth 100000 in
set_option maxHeartbeats 1600000 in
theorem plays_bad3 (p q k : Int) (a : Option Addr) (n cap : Nat) (w : World) (hl2 : ¬ (200 : Int) < (n : Int)) (hp1 : -9223372036854775808 ≤ p) (hp2 : p ≤ 9223372036854775807) (hq1 : -9223372036854775808 ≤ q) (hq2 : q ≤ 9223372036854775807) (t1 : decide (q < 1) = false) (t2 : decide (10 < q) = false) (c3 : p < 0) :
    Calls Try.prog 3 #[.int .i64 p, .int .i64 q, .slice a n cap, .int .i64 k] w fun e w' => e = .returned (.bool true) ∧ Below w.heap.size w w' := by
  have t3 : decide (p < 0) = true := decide_eq_true c3
  go_enter Try.func3, Try.ntmps3
  go_wp2_with fail
  refine (give_none _ _ (cells_nil _ _)).mono ?_
  rintro e w ⟨rfl, rfl⟩
  go_wp2_with fail
  refine (cell_new_at (n := 20) _ (Lib.hid rfl) (by omega) (by omega)).mono ?_
  rintro e w1 ⟨B, V, rfl, hC, hV, hB, hz⟩
  have hvl : (List.replicate 20 0).length = 20 := by simp
  obtain ⟨vs, hvs⟩ : ∃ vs, vs = List.replicate 20 0 := ⟨_, rfl⟩
  rw [← hvs] at hC hvl
  go_wp2_with fail
  refine (draw_none _ _ (cells_nil _ _)).mono ?_
  rintro e w1 ⟨rfl, rfl⟩
  go_wp2_with fail
  refine (mine_none _ _ _ (cells_nil _ _)).mono ?_
  rintro e w1 ⟨rfl, rfl⟩
  go_wp2_with fail
  refine (free_none _ _ (cells_nil _ _)).mono ?_
  rintro e w1 ⟨rfl, rfl⟩
  go_wp2_with fail
  refine (wait_none _ _ (cells_nil _ _)).mono ?_
  rintro e w1 ⟨rfl, rfl⟩
  go_wp2_with fail
  refine (tlen_nil _).mono ?_
  rintro e w1 ⟨rfl, rfl⟩
  have HV := Lib.hid hvl
  clear hvl
  go_wp2_with fail
  refine (tnew_bad _ hC hp1 hp2 hq1 hq2 (by rw [HV.out]; omega)).mono ?_
  rintro e w2 ⟨rfl, hg⟩
  have hz2 := hz.next hg
  clear hC hg hz HV hvs
  go_wp2_with fail
  refine (alive_any _).mono ?_
  rintro e wz ⟨rfl, hbz⟩
  have hB' : Below w.heap.size w wz := (hz2.below (Nat.le_refl _) (by simp)).trans (hbz.mono hz2.size)
  clear hz2 hbz
  go_wp2_with fail
  go_ret
  exact ⟨rfl, hB'⟩

set_option maxRecDepth 100000 in
set_option maxHeartbeats 1600000 in
theorem plays_bad4 (p q k : Int) (a : Option Addr) (n cap : Nat) (w : World) (hl2 : ¬ (200 : Int) < (n : Int)) (hp1 : -9223372036854775808 ≤ p) (hp2 : p ≤ 9223372036854775807) (hq1 : -9223372036854775808 ≤ q) (hq2 : q ≤ 9223372036854775807) (c1 : ¬ q < 1) (t1 : decide (q < 1) = false) (c2 : ¬ 10 < q) (t2 : decide (10 < q) = false) (t3 : decide (p < 0) = false) (c4 : 20 - 2 * q < p) :
    Calls Try.prog 3 #[.int .i64 p, .int .i64 q, .slice a n cap, .int .i64 k] w fun e w' => e = .returned (.bool true) ∧ Below w.heap.size w w' := by
  have t4 : decide (20 - 2 * q < p) = true := decide_eq_true c4
  go_enter Try.func3, Try.ntmps3
  go_wp2_with fail
  refine (give_none _ _ (cells_nil _ _)).mono ?_
  rintro e w ⟨rfl, rfl⟩
  go_wp2_with fail
  refine (cell_new_at (n := 20) _ (Lib.hid rfl) (by omega) (by omega)).mono ?_
  rintro e w1 ⟨B, V, rfl, hC, hV, hB, hz⟩
  have hvl : (List.replicate 20 0).length = 20 := by simp
  obtain ⟨vs, hvs⟩ : ∃ vs, vs = List.replicate 20 0 := ⟨_, rfl⟩
  rw [← hvs] at hC hvl
  go_wp2_with fail
  refine (draw_none _ _ (cells_nil _ _)).mono ?_
  rintro e w1 ⟨rfl, rfl⟩
  go_wp2_with fail
  refine (mine_none _ _ _ (cells_nil _ _)).mono ?_
  rintro e w1 ⟨rfl, rfl⟩
  go_wp2_with fail
  refine (free_none _ _ (cells_nil _ _)).mono ?_
  rintro e w1 ⟨rfl, rfl⟩
  go_wp2_with fail
  refine (wait_none _ _ (cells_nil _ _)).mono ?_
  rintro e w1 ⟨rfl, rfl⟩
  go_wp2_with fail
  refine (tlen_nil _).mono ?_
  rintro e w1 ⟨rfl, rfl⟩
  have HV := Lib.hid hvl
  clear hvl
  go_wp2_with fail
  refine (tnew_bad _ hC hp1 hp2 hq1 hq2 (by rw [HV.out]; omega)).mono ?_
  rintro e w2 ⟨rfl, hg⟩
  have hz2 := hz.next hg
  clear hC hg hz HV hvs
  go_wp2_with fail
  refine (alive_any _).mono ?_
  rintro e wz ⟨rfl, hbz⟩
  have hB' : Below w.heap.size w wz := (hz2.below (Nat.le_refl _) (by simp)).trans (hbz.mono hz2.size)
  clear hz2 hbz
  go_wp2_with fail
  go_ret
  exact ⟨rfl, hB'⟩

theorem plays_bad (p q k : Int) (a : Option Addr) (n cap : Nat) (w : World) (hn : n ≤ 200) (hp1 : -9223372036854775808 ≤ p) (hp2 : p ≤ 9223372036854775807) (hq1 : -9223372036854775808 ≤ q) (hq2 : q ≤ 9223372036854775807)
    (hbad : q < 1 ∨ 10 < q ∨ p < 0 ∨ 20 - 2 * q < p) :
    Calls Try.prog 3 #[.int .i64 p, .int .i64 q, .slice a n cap, .int .i64 k] w fun e w' => e = .returned (.bool true) ∧ Below w.heap.size w w' := by
  have hl2 : ¬ (200 : Int) < (n : Int) := by omega
  by_cases c1 : q < 1
  · exact plays_bad1 p q k a n cap w hl2 hp1 hp2 hq1 hq2 c1
  have t1 : decide (q < 1) = false := decide_eq_false c1
  by_cases c2 : 10 < q
  · exact plays_bad2 p q k a n cap w hl2 hp1 hp2 hq1 hq2 t1 c2
  have t2 : decide (10 < q) = false := decide_eq_false c2
  by_cases c3 : p < 0
  · exact plays_bad3 p q k a n cap w hl2 hp1 hp2 hq1 hq2 t1 t2 c3
  have t3 : decide (p < 0) = false := decide_eq_false c3
  have c4 : 20 - 2 * q < p := by omega
  exact plays_bad4 p q k a n cap w hl2 hp1 hp2 hq1 hq2 c1 t1 c2 t2 t3 c4

set_option maxRecDepth 100000 in
set_option maxHeartbeats 1600000 in
theorem plays_none (base n : Nat) (hn1 : 1 ≤ n) (hn2 : n ≤ 10) (hbn : base + 2 * n ≤ 20) (k : Int) (a : Option Addr) (cap : Nat) (w : World) :
    Calls Try.prog 3 #[.int .i64 (base : Int), .int .i64 (n : Int), .slice a 0 cap, .int .i64 k] w fun e w' => e = .returned (.bool true) ∧ Below w.heap.size w w' := by
  obtain ⟨i0, hi, iz0, iz1, iz2⟩ := info_parts infoU64
  have q1 : decide ((n : Int) < 1) = false := by simp; omega
  have q1' : ¬ (n : Int) < 1 := by omega
  have q2 : decide ((10 : Int) < (n : Int)) = false := by simp; omega
  have q2' : ¬ (10 : Int) < (n : Int) := by omega
  have q3 : decide ((base : Int) < 0) = false := by simp
  have q4 : decide (20 - 2 * (n : Int) < (base : Int)) = false := by simp; omega
  have q4' : ¬ 20 - 2 * (n : Int) < (base : Int) := by omega
  go_enter Try.func3, Try.ntmps3
  go_wp2_with fail
  refine (give_none _ _ (cells_nil _ _)).mono ?_
  rintro e w ⟨rfl, rfl⟩
  go_wp2_with fail
  refine (cell_new_at (n := 20) _ (Lib.hid rfl) (by omega) (by omega)).mono ?_
  rintro e w1 ⟨B, V, rfl, hC, hV, hB, hz⟩
  have hvl : (List.replicate 20 0).length = 20 := by simp
  obtain ⟨vs, hvs⟩ : ∃ vs, vs = List.replicate 20 0 := ⟨_, rfl⟩
  rw [← hvs] at hC hvl
  go_wp2_with fail
  refine (draw_none _ _ (cells_nil _ _)).mono ?_
  rintro e w1 ⟨rfl, rfl⟩
  go_wp2_with fail
  refine (mine_none _ _ _ (cells_nil _ _)).mono ?_
  rintro e w1 ⟨rfl, rfl⟩
  go_wp2_with fail
  refine (free_none _ _ (cells_nil _ _)).mono ?_
  rintro e w1 ⟨rfl, rfl⟩
  go_wp2_with fail
  refine (wait_none _ _ (cells_nil _ _)).mono ?_
  rintro e w1 ⟨rfl, rfl⟩
  go_wp2_with fail
  refine (tlen_nil _).mono ?_
  rintro e w1 ⟨rfl, rfl⟩
  have HV := Lib.hid hvl
  clear hvl
  go_wp2_with fail
  refine (tnew_ok _ hC hn1 (by omega) (by rw [HV.out]; exact hbn)).mono ?_
  rintro e w2 ⟨L, P, Q, rfl, hL, hg⟩
  have hC2 := hC.but hg (by simp) (by simp)
  have hz2 := hz.next hg
  clear hC hg hz
  go_wp2_with (at_make; refine wpList_make_full _ rfl _ _ 40 rfl w2.heap.size 41 i0 (.int .u64 0) 1 Try.underlying40 hi iz0 iz1 .i64 .i64 20 20 20 rfl rfl rfl rfl (by rw [iz2]; omega) (by unfold maxLen; omega) (Nat.le_refl _) ?_; intro w3 hown hgrow)
  have hD := Duel.first hL hC2 hz2 hB hV hvs hgrow hown
  clear hL hC2 hz2 hB hV hvs hgrow hown HV
  have hz5 := hD.but
  clear hD
  refine wp_loop_rounds 1 ?_
  rw [rounds_succ]
  go_wp2_with fail
  refine (alive_any _).mono ?_
  rintro e wz ⟨rfl, hbz⟩
  have hB' : Below w.heap.size w wz := (hz5.below (Nat.le_refl _) (by simp)).trans (hbz.mono hz5.size)
  clear hz5 hbz
  go_wp2_with fail
  go_ret
  exact ⟨rfl, hB'⟩

theorem plays_walk (p q k : Int) (v : Value) (ss : List (Int × Int × Nat × Nat)) (w : World) (hp1 : -9223372036854775808 ≤ p) (hp2 : p ≤ 9223372036854775807) (hq1 : -9223372036854775808 ≤ q) (hq2 : q ≤ 9223372036854775807) (hs : Steps w v ss) :
    Calls Try.prog 3 #[.int .i64 p, .int .i64 q, v, .int .i64 k] w fun e w' => e = .returned (.bool true) ∧ Below w.heap.size w w' := by
  obtain ⟨a, cap, rfl⟩ : ∃ a cap, v = .slice a ss.length cap := by
    rcases hs with ⟨rfl, a, cap, rfl⟩ | ⟨b, off, cap, rfl, _⟩
    · exact ⟨a, cap, rfl⟩
    · exact ⟨_, cap, rfl⟩
  by_cases hn : 200 < ss.length
  · exact plays_big p q k a _ cap w hn
  by_cases hbad : q < 1 ∨ 10 < q ∨ p < 0 ∨ 20 - 2 * q < p
  · exact plays_bad p q k a _ cap w (by omega) hp1 hp2 hq1 hq2 hbad
  obtain ⟨base, rfl⟩ := Int.eq_ofNat_of_zero_le (show 0 ≤ p by omega)
  obtain ⟨n, rfl⟩ := Int.eq_ofNat_of_zero_le (show 0 ≤ q by omega)
  rcases hs with ⟨rfl, a', cap', _⟩ | ⟨b, off, cap', he, h0, hc⟩
  · exact plays_none base n (by omega) (by omega) (by omega) k a cap w
  · simp only [Value.slice.injEq] at he
    obtain ⟨rfl, -, rfl⟩ := he
    exact plays_loop base n (by omega) (by omega) (by omega) k b off cap ss w (by omega) h0 hc
end Go.Proofs.Ytednclgfgekgbaa
