/-
  The walk of the law ClaimPlays, whatever comes in.
-/
import Derived.Test.YtbpelcclkmmglaaJPlays
namespace Go.Proofs.Ytbpelcclkmmglaa
open Go.RowKit

set_option maxRecDepth 100000 in
theorem plays_big (o p q k : Int) (a : Option Addr) (n cap : Nat) (w : World) (hn : 300 < n) :
    Calls Try.prog 3 #[.int .i64 o, .int .i64 p, .int .i64 q, .slice a n cap, .int .i64 k] w fun e w' => e = .returned (.bool true) ∧ Below w.heap.size w w' := by
  have hl2 : (300 : Int) < (n : Int) := by omega
  have hl1 : decide ((300 : Int) < (n : Int)) = true := decide_eq_true hl2
  go_enter Try.func3, Try.ntmps3
  go_wp2_with fail
  refine (alive_any _).mono ?_
  rintro e w1 ⟨rfl, hb⟩
  go_wp2_with fail
  go_ret
  exact ⟨rfl, hb⟩
set_option maxRecDepth 100000 in
theorem plays_many (o p q k : Int) (a : Option Addr) (n cap : Nat) (w : World) (hl2 : ¬ (300 : Int) < (n : Int)) (ho : 200 < o) :
    Calls Try.prog 3 #[.int .i64 o, .int .i64 p, .int .i64 q, .slice a n cap, .int .i64 k] w fun e w' => e = .returned (.bool true) ∧ Below w.heap.size w w' := by
  have hl1 : decide ((300 : Int) < (n : Int)) = false := decide_eq_false hl2
  have hl3 : decide (200 < o) = true := decide_eq_true ho
  go_enter Try.func3, Try.ntmps3
  go_wp2_with fail
  refine (alive_any _).mono ?_
  rintro e w1 ⟨rfl, hb⟩
  go_wp2_with fail
  go_ret
  exact ⟨rfl, hb⟩
set_option maxRecDepth 100000 in
theorem plays_none (o p q k : Int) (a : Option Addr) (n cap : Nat) (w : World) (hl2 : ¬ (300 : Int) < (n : Int)) (ho : o < 1) :
    Calls Try.prog 3 #[.int .i64 o, .int .i64 p, .int .i64 q, .slice a n cap, .int .i64 k] w fun e w' => e = .returned (.bool true) ∧ Below w.heap.size w w' := by
  have hl1 : decide ((300 : Int) < (n : Int)) = false := decide_eq_false hl2
  have hl3 : decide (200 < o) = false := decide_eq_false (by omega)
  have hl4 : ¬ 200 < o := by omega
  go_enter Try.func3, Try.ntmps3
  go_wp2_with fail
  refine (nothing_any _).mono ?_
  rintro e w ⟨rfl, rfl⟩
  go_wp2_with fail
  refine (cnew_bad _ ho).mono ?_
  rintro e w ⟨rfl, rfl⟩
  go_wp2_with fail
  refine (alive_any _).mono ?_
  rintro e w1 ⟨rfl, hb⟩
  go_wp2_with fail
  go_ret
  exact ⟨rfl, hb⟩

set_option maxRecDepth 100000 in
theorem plays_bad0 (len : Nat) (hlen1 : 1 ≤ len) (hlen2 : len ≤ 200) (p q k : Int) (a : Option Addr) (n cap : Nat) (w : World) (hl2 : ¬ (300 : Int) < (n : Int)) (hp1 : -9223372036854775808 ≤ p) (hp2 : p ≤ 9223372036854775807) (hq1 : -9223372036854775808 ≤ q) (hq2 : q ≤ 9223372036854775807) (y : q < 1) :
    Calls Try.prog 3 #[.int .i64 (len : Int), .int .i64 p, .int .i64 q, .slice a n cap, .int .i64 k] w fun e w' => e = .returned (.bool true) ∧ Below w.heap.size w w' := by
  have hl1 : decide ((300 : Int) < (n : Int)) = false := decide_eq_false hl2
  have hl3 : decide ((200 : Int) < (len : Int)) = false := decide_eq_false (by omega)
  have hl4 : ¬ (200 : Int) < (len : Int) := by omega
  have d : decide (q < 1) = true := decide_eq_true y
  go_enter Try.func3, Try.ntmps3
  go_wp2_with fail
  refine (nothing_any _).mono ?_
  rintro e w ⟨rfl, rfl⟩
  go_wp2_with fail
  refine (cell_new len hlen1 (by omega) _).mono ?_
  rintro e w1 ⟨B, V, rfl, hC, hV, hB, hz⟩
  go_wp2_with fail
  refine (knew_bad _ hC hp1 hp2 hq1 hq2 (by rw [List.length_replicate]; omega)).mono ?_
  rintro e w2 ⟨rfl, hg⟩
  have hz2 := hz.next hg
  clear hC hg hz hV hB
  go_wp2_with fail
  refine (alive_any _).mono ?_
  rintro e wz ⟨rfl, hbz⟩
  have hB' : Below w.heap.size w wz := (hz2.below (Nat.le_refl _) (by simp)).trans (hbz.mono hz2.size)
  clear hz2 hbz
  go_wp2_with fail
  go_ret
  exact ⟨rfl, hB'⟩

set_option maxRecDepth 100000 in
theorem plays_bad1 (len : Nat) (hlen1 : 1 ≤ len) (hlen2 : len ≤ 200) (p q k : Int) (a : Option Addr) (n cap : Nat) (w : World) (hl2 : ¬ (300 : Int) < (n : Int)) (hp1 : -9223372036854775808 ≤ p) (hp2 : p ≤ 9223372036854775807) (hq1 : -9223372036854775808 ≤ q) (hq2 : q ≤ 9223372036854775807) (n0 : ¬ q < 1) (y : 32 < q) :
    Calls Try.prog 3 #[.int .i64 (len : Int), .int .i64 p, .int .i64 q, .slice a n cap, .int .i64 k] w fun e w' => e = .returned (.bool true) ∧ Below w.heap.size w w' := by
  have hl1 : decide ((300 : Int) < (n : Int)) = false := decide_eq_false hl2
  have hl3 : decide ((200 : Int) < (len : Int)) = false := decide_eq_false (by omega)
  have hl4 : ¬ (200 : Int) < (len : Int) := by omega
  have d0 : decide (q < 1) = false := decide_eq_false n0
  have d : decide (32 < q) = true := decide_eq_true y
  go_enter Try.func3, Try.ntmps3
  go_wp2_with fail
  refine (nothing_any _).mono ?_
  rintro e w ⟨rfl, rfl⟩
  go_wp2_with fail
  refine (cell_new len hlen1 (by omega) _).mono ?_
  rintro e w1 ⟨B, V, rfl, hC, hV, hB, hz⟩
  go_wp2_with fail
  refine (knew_bad _ hC hp1 hp2 hq1 hq2 (by rw [List.length_replicate]; omega)).mono ?_
  rintro e w2 ⟨rfl, hg⟩
  have hz2 := hz.next hg
  clear hC hg hz hV hB
  go_wp2_with fail
  refine (alive_any _).mono ?_
  rintro e wz ⟨rfl, hbz⟩
  have hB' : Below w.heap.size w wz := (hz2.below (Nat.le_refl _) (by simp)).trans (hbz.mono hz2.size)
  clear hz2 hbz
  go_wp2_with fail
  go_ret
  exact ⟨rfl, hB'⟩

set_option maxRecDepth 100000 in
theorem plays_bad2 (len : Nat) (hlen1 : 1 ≤ len) (hlen2 : len ≤ 200) (p q k : Int) (a : Option Addr) (n cap : Nat) (w : World) (hl2 : ¬ (300 : Int) < (n : Int)) (hp1 : -9223372036854775808 ≤ p) (hp2 : p ≤ 9223372036854775807) (hq1 : -9223372036854775808 ≤ q) (hq2 : q ≤ 9223372036854775807) (n0 : ¬ q < 1) (n1 : ¬ 32 < q) (y : p < 0) :
    Calls Try.prog 3 #[.int .i64 (len : Int), .int .i64 p, .int .i64 q, .slice a n cap, .int .i64 k] w fun e w' => e = .returned (.bool true) ∧ Below w.heap.size w w' := by
  have hl1 : decide ((300 : Int) < (n : Int)) = false := decide_eq_false hl2
  have hl3 : decide ((200 : Int) < (len : Int)) = false := decide_eq_false (by omega)
  have hl4 : ¬ (200 : Int) < (len : Int) := by omega
  have d0 : decide (q < 1) = false := decide_eq_false n0
  have d1 : decide (32 < q) = false := decide_eq_false n1
  have d : decide (p < 0) = true := decide_eq_true y
  go_enter Try.func3, Try.ntmps3
  go_wp2_with fail
  refine (nothing_any _).mono ?_
  rintro e w ⟨rfl, rfl⟩
  go_wp2_with fail
  refine (cell_new len hlen1 (by omega) _).mono ?_
  rintro e w1 ⟨B, V, rfl, hC, hV, hB, hz⟩
  go_wp2_with fail
  refine (knew_bad _ hC hp1 hp2 hq1 hq2 (by rw [List.length_replicate]; omega)).mono ?_
  rintro e w2 ⟨rfl, hg⟩
  have hz2 := hz.next hg
  clear hC hg hz hV hB
  go_wp2_with fail
  refine (alive_any _).mono ?_
  rintro e wz ⟨rfl, hbz⟩
  have hB' : Below w.heap.size w wz := (hz2.below (Nat.le_refl _) (by simp)).trans (hbz.mono hz2.size)
  clear hz2 hbz
  go_wp2_with fail
  go_ret
  exact ⟨rfl, hB'⟩

set_option maxRecDepth 100000 in
theorem plays_bad3 (len : Nat) (hlen1 : 1 ≤ len) (hlen2 : len ≤ 200) (p q k : Int) (a : Option Addr) (n cap : Nat) (w : World) (hl2 : ¬ (300 : Int) < (n : Int)) (hp1 : -9223372036854775808 ≤ p) (hp2 : p ≤ 9223372036854775807) (hq1 : -9223372036854775808 ≤ q) (hq2 : q ≤ 9223372036854775807) (n0 : ¬ q < 1) (n1 : ¬ 32 < q) (n2 : ¬ p < 0) (y : (len : Int) - q < p) :
    Calls Try.prog 3 #[.int .i64 (len : Int), .int .i64 p, .int .i64 q, .slice a n cap, .int .i64 k] w fun e w' => e = .returned (.bool true) ∧ Below w.heap.size w w' := by
  have hl1 : decide ((300 : Int) < (n : Int)) = false := decide_eq_false hl2
  have hl3 : decide ((200 : Int) < (len : Int)) = false := decide_eq_false (by omega)
  have hl4 : ¬ (200 : Int) < (len : Int) := by omega
  have d0 : decide (q < 1) = false := decide_eq_false n0
  have d1 : decide (32 < q) = false := decide_eq_false n1
  have d2 : decide (p < 0) = false := decide_eq_false n2
  have d : decide ((len : Int) - q < p) = true := decide_eq_true y
  go_enter Try.func3, Try.ntmps3
  go_wp2_with fail
  refine (nothing_any _).mono ?_
  rintro e w ⟨rfl, rfl⟩
  go_wp2_with fail
  refine (cell_new len hlen1 (by omega) _).mono ?_
  rintro e w1 ⟨B, V, rfl, hC, hV, hB, hz⟩
  go_wp2_with fail
  refine (knew_bad _ hC hp1 hp2 hq1 hq2 (by rw [List.length_replicate]; omega)).mono ?_
  rintro e w2 ⟨rfl, hg⟩
  have hz2 := hz.next hg
  clear hC hg hz hV hB
  go_wp2_with fail
  refine (alive_any _).mono ?_
  rintro e wz ⟨rfl, hbz⟩
  have hB' : Below w.heap.size w wz := (hz2.below (Nat.le_refl _) (by simp)).trans (hbz.mono hz2.size)
  clear hz2 hbz
  go_wp2_with fail
  go_ret
  exact ⟨rfl, hB'⟩

set_option maxRecDepth 100000 in
theorem plays_nil (len base n : Nat) (hlen1 : 1 ≤ len) (hlen2 : len ≤ 200) (hn1 : 1 ≤ n) (hn2 : n ≤ 32) (hbn : base + n ≤ len) (k : Int) (a : Option Addr) (cap : Nat) (w : World) :
    Calls Try.prog 3 #[.int .i64 (len : Int), .int .i64 (base : Int), .int .i64 (n : Int), .slice a 0 cap, .int .i64 k] w fun e w' => e = .returned (.bool true) ∧ Below w.heap.size w w' := by
  obtain ⟨i0, hi, iz0, iz1, iz2⟩ := info_parts infoU64
  have hl3 : decide ((200 : Int) < (len : Int)) = false := by simp; omega
  have hl4 : ¬ (200 : Int) < (len : Int) := by omega
  have q1 : decide ((n : Int) < 1) = false := by simp; omega
  have q1' : ¬ (n : Int) < 1 := by omega
  have q2 : decide ((32 : Int) < (n : Int)) = false := by simp; omega
  have q2' : ¬ (32 : Int) < (n : Int) := by omega
  have q3 : decide ((base : Int) < 0) = false := by simp
  have q4 : decide ((len : Int) - (n : Int) < (base : Int)) = false := by simp; omega
  have q4' : ¬ (len : Int) - (n : Int) < (base : Int) := by omega
  go_enter Try.func3, Try.ntmps3
  go_wp2_with fail
  refine (nothing_any _).mono ?_
  rintro e w ⟨rfl, rfl⟩
  go_wp2_with fail
  refine (cell_new len hlen1 (by omega) _).mono ?_
  rintro e w1 ⟨B, V, rfl, hC, hV, hB, hz⟩
  go_wp2_with fail
  refine (knew_ok _ hC hn1 hn2 (by simpa using hbn)).mono ?_
  rintro e w2 ⟨L, P, Q, rfl, -, hg, -⟩
  have hz2 := hz.next hg
  clear hC hg hz hV hB
  go_wp2_with (at_make; refine wpList_make_full _ rfl _ _ 32 rfl w2.heap.size 33 i0 (.int .u64 0) 1 Try.underlying32 hi iz0 iz1 .i64 .i64 _ _ len rfl rfl rfl rfl (by rw [iz2]; omega) (by unfold maxLen; omega) (Nat.le_refl _) ?_; intro w3 _ hgrow)
  have hz3 := ((hz2.next (But.of_none hgrow [])).alloc (.cells #[.slice (some ⟨w2.heap.size, 0, none⟩) len len, .int .u64 0] 35)).alloc (.cells #[.pointer (some ⟨w3.heap.size, 0, none⟩), .int .i64 (base : Int), .int .i64 (n : Int)] 38)
  clear hz2 hgrow
  refine wp_loop_rounds 1 ?_
  rw [rounds_succ]
  go_wp2_with fail
  refine (alive_any _).mono ?_
  rintro e wz ⟨rfl, hbz⟩
  have hB' : Below w.heap.size w wz := (hz3.below (Nat.le_refl _) (by simp)).trans (hbz.mono hz3.size)
  clear hz3 hbz
  go_wp2_with fail
  go_ret
  exact ⟨rfl, hB'⟩

theorem steps_slice {w : World} {v : Value} {ss : List (Int × Int × Nat)} (h : Steps w v ss) : ∃ a cap, v = .slice a ss.length cap := by
  rcases h with ⟨rfl, a, cap, rfl⟩ | ⟨b, off, cap, rfl, _⟩
  · exact ⟨a, cap, rfl⟩
  · exact ⟨_, cap, rfl⟩
theorem plays_walk (o p q k : Int) (v : Value) (ss : List (Int × Int × Nat)) (w : World) (hp : -9223372036854775808 ≤ p ∧ p ≤ 9223372036854775807) (hq : -9223372036854775808 ≤ q ∧ q ≤ 9223372036854775807) (hs : Steps w v ss) :
    Calls Try.prog 3 #[.int .i64 o, .int .i64 p, .int .i64 q, v, .int .i64 k] w fun e w' => e = .returned (.bool true) ∧ Below w.heap.size w w' := by
  obtain ⟨a, cap, rfl⟩ := steps_slice hs
  by_cases hl : 300 < ss.length
  · exact plays_big o p q k a _ cap w hl
  have hl2 : ¬ (300 : Int) < (ss.length : Int) := by omega
  by_cases h1 : 200 < o
  · exact plays_many o p q k a _ cap w hl2 h1
  by_cases h2 : o < 1
  · exact plays_none o p q k a _ cap w hl2 h2
  obtain ⟨len, rfl⟩ := Int.eq_ofNat_of_zero_le (a := o) (by omega)
  have l1 : 1 ≤ len := by omega
  have l2 : len ≤ 200 := by omega
  by_cases c0 : q < 1
  · exact plays_bad0 len l1 l2 p q k a _ cap w hl2 hp.1 hp.2 hq.1 hq.2 c0
  by_cases c1 : 32 < q
  · exact plays_bad1 len l1 l2 p q k a _ cap w hl2 hp.1 hp.2 hq.1 hq.2 c0 c1
  by_cases c2 : p < 0
  · exact plays_bad2 len l1 l2 p q k a _ cap w hl2 hp.1 hp.2 hq.1 hq.2 c0 c1 c2
  by_cases c3 : (len : Int) - q < p
  · exact plays_bad3 len l1 l2 p q k a _ cap w hl2 hp.1 hp.2 hq.1 hq.2 c0 c1 c2 c3
  obtain ⟨n, rfl⟩ := Int.eq_ofNat_of_zero_le (a := q) (by omega)
  obtain ⟨base, rfl⟩ := Int.eq_ofNat_of_zero_le (a := p) (by omega)
  rcases hs with ⟨rfl, _⟩ | ⟨b, off, cap', he, h0, hc⟩
  · exact plays_nil len base n l1 l2 (by omega) (by omega) (by omega) k a cap w
  · rw [he]
    exact plays_loop len base n l1 l2 (by omega) (by omega) (by omega) k b off cap' ss w (by omega) h0 hc
end Go.Proofs.Ytbpelcclkmmglaa
