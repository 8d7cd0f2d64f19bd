/-
  The walk of the law PoolPlays, whatever comes in.
-/
import Derived.Test.YtmllalmdaobboaaPPlays
namespace Go.Proofs.Ytmllalmdaobboaa
open Go.RowKit

set_option maxRecDepth 100000 in
set_option maxHeartbeats 400000 in
theorem plays_big (k i : Int) (a : Option Addr) (n cap : Nat) (w : World) (hn : 300 < n ∨ (60 < k ∧ k ≤ 1024)) :
    Calls Try.prog 3 #[.int .i64 k, .slice a n cap, .int .i64 i] w fun e w' => e = .returned (.bool true) ∧ Below w.heap.size w w' := by
  by_cases h : 300 < n
  · have hl1 : decide ((300 : Int) < (n : Int)) = true := by simp; omega
    have hl2 : (300 : Int) < (n : Int) := by omega
    go_enter Try.func3, Try.ntmps3
    go_wp2_with fail
    refine (alive_any _).mono ?_
    rintro e w1 ⟨rfl, hb⟩
    go_wp2_with fail
    go_ret
    exact ⟨rfl, hb⟩
  · have hk : 60 < k ∧ k ≤ 1024 := by omega
    have hl1 : decide ((300 : Int) < (n : Int)) = false := by simp; omega
    have hl2 : ¬ (300 : Int) < (n : Int) := by omega
    have q1 : decide ((60 : Int) < k) = true := decide_eq_true hk.1
    have q2 : decide (k ≤ 1024) = true := decide_eq_true hk.2
    have q3 := hk.1
    have q4 := hk.2
    clear hk hn h
    go_enter Try.func3, Try.ntmps3
    go_wp2_with fail
    refine (alive_any _).mono ?_
    rintro e w1 ⟨rfl, hb⟩
    go_wp2_with fail
    go_ret
    exact ⟨rfl, hb⟩

set_option maxRecDepth 100000 in
set_option maxHeartbeats 800000 in
theorem plays_bad (k i : Int) (hk : k < 1 ∨ 1024 < k) (a : Option Addr) (n cap : Nat) (w : World) (hn : n ≤ 300) :
    Calls Try.prog 3 #[.int .i64 k, .slice a n cap, .int .i64 i] w fun e w' => e = .returned (.bool true) ∧ Below w.heap.size w w' := by
  have hl1 : decide ((300 : Int) < (n : Int)) = false := by simp; omega
  have hl2 : ¬ (300 : Int) < (n : Int) := by omega
  have hnew := fun w => new_bad k w hk
  rcases hk with hk | hk
  · have q1 : decide ((60 : Int) < k) = false := by simp; omega
    have q1' : ¬ (60 : Int) < k := by omega
    have q2 : decide (k < 1) = true := decide_eq_true hk
    go_enter Try.func3, Try.ntmps3
    go_wp2_with fail
    refine (nothing_any _).mono ?_
    rintro e w1 ⟨rfl, hb1⟩
    go_wp2_with fail
    refine (hnew _).mono ?_
    rintro e w1 ⟨rfl, rfl⟩
    go_wp2_with fail
    refine (alive_any _).mono ?_
    rintro e w2 ⟨rfl, hb2⟩
    have hB := below_next hb1 hb2
    clear hb1 hb2 hnew
    go_wp2_with fail
    go_ret
    exact ⟨rfl, hB⟩
  · have q1 : decide ((60 : Int) < k) = true := by simp; omega
    have q1' : (60 : Int) < k := by omega
    have q2 : decide (k ≤ 1024) = false := by simp; omega
    have q2' : ¬ k ≤ 1024 := by omega
    have q3 : decide (k < 1) = false := by simp; omega
    have q3' : ¬ k < 1 := by omega
    have q4 : decide ((1024 : Int) < k) = true := decide_eq_true hk
    go_enter Try.func3, Try.ntmps3
    go_wp2_with fail
    refine (nothing_any _).mono ?_
    rintro e w1 ⟨rfl, hb1⟩
    go_wp2_with fail
    refine (hnew _).mono ?_
    rintro e w1 ⟨rfl, rfl⟩
    go_wp2_with fail
    refine (alive_any _).mono ?_
    rintro e w2 ⟨rfl, hb2⟩
    have hB := below_next hb1 hb2
    clear hb1 hb2 hnew
    go_wp2_with fail
    go_ret
    exact ⟨rfl, hB⟩

set_option maxRecDepth 100000 in
set_option maxHeartbeats 800000 in
theorem plays_none (n : Nat) (hn1 : 1 ≤ n) (hn2 : n ≤ 60) (i : Int) (a : Option Addr) (cap : Nat) (w : World) :
    Calls Try.prog 3 #[.int .i64 (n : Int), .slice a 0 cap, .int .i64 i] w fun e w' => e = .returned (.bool true) ∧ Below w.heap.size w w' := by
  have q1 : decide ((60 : Int) < (n : Int)) = false := by simp; omega
  have q1' : ¬ (60 : Int) < (n : Int) := by omega
  have q2 : decide ((n : Int) < 1) = false := by simp; omega
  have q2' : ¬ (n : Int) < 1 := by omega
  have q3 : decide ((1024 : Int) < (n : Int)) = false := by simp; omega
  have q3' : ¬ (1024 : Int) < (n : Int) := by omega
  go_enter Try.func3, Try.ntmps3
  go_wp2_with fail
  refine (nothing_any _).mono ?_
  rintro e w1 ⟨rfl, hb1⟩
  go_wp2_with fail
  refine (m_new (n := n) (T := List.replicate n none) (F := List.range n) _ (But.of_below hb1 []) hn1 (by omega) rfl rfl rfl).mono ?_
  rintro e w2 ⟨B, V, rfl, hP, -, -, -⟩
  go_wp2_with fail
  refine (rnew_any n hn1 hn2 _).mono ?_
  rintro e w3 ⟨R, g, c, rv, rfl, -, -, hb3⟩
  have hB := (hP.fresh hb3).below
  clear hb1 hP hb3
  go_wp2_with fail
  refine wp_loop_rounds 1 ?_
  rw [rounds_succ]
  go_wp2_with fail
  refine (alive_any _).mono ?_
  rintro e w4 ⟨rfl, hb⟩
  have hB1 := below_next hB hb
  clear hB hb
  go_wp2_with fail
  go_ret
  exact ⟨rfl, hB1⟩

theorem plays_walk (k i : Int) (v : Value) (ss : List (Int × Int × Sud)) (w : World) (hs : Steps w v ss) :
    Calls Try.prog 3 #[.int .i64 k, v, .int .i64 i] w fun e w' => e = .returned (.bool true) ∧ Below w.heap.size w w' := by
  obtain ⟨a, cap, rfl⟩ : ∃ a cap, v = .slice a ss.length cap := by
    rcases hs with ⟨rfl, a, cap, rfl⟩ | ⟨b, off, cap, rfl, _⟩
    · exact ⟨a, cap, rfl⟩
    · exact ⟨_, cap, rfl⟩
  by_cases hn : 300 < ss.length ∨ (60 < k ∧ k ≤ 1024)
  · exact plays_big k i a _ cap w hn
  by_cases hk : k < 1 ∨ 1024 < k
  · exact plays_bad k i hk a _ cap w (by omega)
  obtain ⟨n, rfl⟩ := Int.eq_ofNat_of_zero_le (show 0 ≤ k by omega)
  rcases hs with ⟨rfl, a', cap', _⟩ | ⟨b, off, cap', he, h0, hb, hc⟩
  · exact plays_none n (by omega) (by omega) i a cap w
  · simp only [Value.slice.injEq] at he
    obtain ⟨rfl, -, rfl⟩ := he
    exact plays_loop n (by omega) (by omega) i b off cap ss w (by omega) h0 hc
end Go.Proofs.Ytmllalmdaobboaa
