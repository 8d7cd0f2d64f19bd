/-
  The walk of the law RingPlays, whatever comes in.
-/
import Derived.Test.YtpkpjogpkigmlaaRPlays
namespace Go.Proofs.Ytpkpjogpkigmlaa
open Go.RowKit

set_option maxRecDepth 100000 in
set_option maxHeartbeats 400000 in
theorem plays_big (k : Int) (a : Option Addr) (n cap : Nat) (w : World) (hn : 300 < n) :
    Calls Try.prog 3 #[.int .i64 k, .slice a n cap] w fun e w' => e = .returned (.bool true) ∧ Below w.heap.size w w' := by
  have hl2 : (300 : Int) < (n : Int) := by omega
  go_enter Try.func3, Try.ntmps3
  go_wp2_with fail
  refine (alive_any _).mono ?_
  rintro e w1 ⟨rfl, hb⟩
  go_wp2_with fail
  go_ret
  exact ⟨rfl, hb⟩

set_option maxRecDepth 100000 in
set_option maxHeartbeats 400000 in
theorem plays_bad (k : Int) (h1 : -9223372036854775808 ≤ k) (h2 : k ≤ 9223372036854775807) (hk : k < 0 ∨ 8 < k) (a : Option Addr) (n cap : Nat) (w : World) (hn : n ≤ 300) :
    Calls Try.prog 3 #[.int .i64 k, .slice a n cap] w fun e w' => e = .returned (.bool true) ∧ Below w.heap.size w w' := by
  have hl1 : decide ((300 : Int) < (n : Int)) = false := by simp; omega
  have hl2 : ¬ (300 : Int) < (n : Int) := by omega
  have hnew := fun w => new_bad k w h1 h2 hk
  rcases hk with hk | hk
  · go_enter Try.func3, Try.ntmps3
    go_wp2_with fail
    refine (nothing_any _).mono ?_
    rintro e w1 ⟨rfl, hb1⟩
    go_wp2_with fail
    refine (hnew _).mono ?_
    rintro e w2 ⟨rfl, rfl⟩
    go_wp2_with fail
    refine (alive_any _).mono ?_
    rintro e w3 ⟨rfl, hb3⟩
    have hb := below_next hb1 hb3
    clear hb1 hb3
    go_wp2_with fail
    go_ret
    exact ⟨rfl, hb⟩
  · have hk0 : ¬ k < 0 := by omega
    go_enter Try.func3, Try.ntmps3
    go_wp2_with fail
    refine (nothing_any _).mono ?_
    rintro e w1 ⟨rfl, hb1⟩
    go_wp2_with fail
    refine (hnew _).mono ?_
    rintro e w2 ⟨rfl, rfl⟩
    go_wp2_with fail
    refine (alive_any _).mono ?_
    rintro e w3 ⟨rfl, hb3⟩
    have hb := below_next hb1 hb3
    clear hb1 hb3
    go_wp2_with fail
    go_ret
    exact ⟨rfl, hb⟩

set_option maxRecDepth 100000 in
set_option maxHeartbeats 400000 in
theorem plays_none (m : Nat) (hm : m ≤ 8) (a : Option Addr) (cap : Nat) (w : World) :
    Calls Try.prog 3 #[.int .i64 (m : Int), .slice a 0 cap] w fun e w' => e = .returned (.bool true) ∧ Below w.heap.size w w' := by
  have hm1 : ¬ (m : Int) < 0 := by omega
  have hm2 : ¬ (8 : Int) < (m : Int) := by omega
  have hnew := fun w => new_ok m w hm
  go_enter Try.func3, Try.ntmps3
  go_wp2_with fail
  refine (nothing_any _).mono ?_
  rintro e w1 ⟨rfl, hb1⟩
  go_wp2_with fail
  refine (hnew _).mono ?_
  rintro e w2 ⟨rfl, -, hg⟩
  have hb2 : Below w.heap.size w w2 := hb1.grown hg hb1.size (fun _ e => by cases e)
  have hb3 : Below w.heap.size w (w2.alloc (.cells #[.int .i64 (m : Int), .slice none 0 0] 31)) := hb2.alloc hb2.size _
  clear hg hnew hb1 hb2
  go_wp2_with fail
  refine wp_loop_rounds 1 ?_
  rw [rounds_succ]
  go_wp2_with fail
  refine (alive_any _).mono ?_
  rintro e w3 ⟨rfl, hb4⟩
  have hb := below_next hb3 hb4
  clear hb3 hb4
  go_wp2_with fail
  go_ret
  exact ⟨rfl, hb⟩

theorem plays_walk (k : Int) (v : Value) (ss : List (Int × Int)) (w : World) (h1 : -9223372036854775808 ≤ k) (h2 : k ≤ 9223372036854775807) (hs : Steps w v ss) :
    Calls Try.prog 3 #[.int .i64 k, v] w fun e w' => e = .returned (.bool true) ∧ Below w.heap.size w w' := by
  obtain ⟨a, cap, rfl⟩ : ∃ a cap, v = .slice a ss.length cap := by
    rcases hs with ⟨rfl, a, cap, rfl⟩ | ⟨b, off, cap, rfl, _⟩
    · exact ⟨a, cap, rfl⟩
    · exact ⟨_, cap, rfl⟩
  by_cases hn : 300 < ss.length
  · exact plays_big k a _ cap w hn
  by_cases hk : k < 0 ∨ 8 < k
  · exact plays_bad k h1 h2 hk a _ cap w (by omega)
  obtain ⟨m, rfl⟩ := Int.eq_ofNat_of_zero_le (show 0 ≤ k by omega)
  rcases hs with ⟨rfl, a', cap', _⟩ | ⟨b, off, cap', he, h0, hb, hc⟩
  · exact plays_none m (by omega) a cap w
  · simp only [Value.slice.injEq] at he
    obtain ⟨rfl, -, rfl⟩ := he
    exact plays_loop m (by omega) b off cap ss w (by omega) h0 hb hc
end Go.Proofs.Ytpkpjogpkigmlaa
