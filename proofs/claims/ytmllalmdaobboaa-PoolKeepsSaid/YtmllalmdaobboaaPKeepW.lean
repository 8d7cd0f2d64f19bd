/-
  The walk of the law PoolKeeps, whatever comes in.
-/
import Derived.Test.YtmllalmdaobboaaPKeep
namespace Go.Proofs.Ytmllalmdaobboaa
open Go.RowKit

set_option maxRecDepth 100000 in
set_option maxHeartbeats 400000 in
theorem keeps_big (f : Int) (a : Option Addr) (n cap : Nat) (w : World) (hn : 200 < n) :
    Calls Try.prog 4 #[.int .u8 f, .slice a n cap] w fun e w' => e = .returned (.bool true) ∧ Below w.heap.size w w' := by
  have hl2 : (200 : Int) < (n : Int) := by omega
  go_enter Try.func4, Try.ntmps4
  go_wp2_with fail
  refine (alive_any _).mono ?_
  rintro e w1 ⟨rfl, hb⟩
  go_wp2_with fail
  go_ret
  exact ⟨rfl, hb⟩

set_option maxRecDepth 100000 in
set_option maxHeartbeats 800000 in
theorem keeps_none (n : Nat) (hn : n < 256) (a : Option Addr) (cap : Nat) (w : World) :
    Calls Try.prog 4 #[.int .u8 (n : Int), .slice a 0 cap] w fun e w' => e = .returned (.bool true) ∧ Below w.heap.size w w' := by
  obtain ⟨i0, hi, hz0, hz1, hz2⟩ := info_parts infoBool
  obtain ⟨i1, hj, jz0, jz1, jz2⟩ := info_parts infoSud
  obtain ⟨q, hq⟩ : ∃ q, q = n % 40 := ⟨_, rfl⟩
  have hq40 : q < 40 := by omega
  have hq1 : (n : Int) % 40 = (q : Int) := by omega
  have hq2 : (n : Int).tmod 40 = (q : Int) := by rw [Int.tmod_eq_emod_of_nonneg (by omega)]; omega
  have hw : IntKind.i64.wrap (n : Int) = (n : Int) := by rw [IntKind.wrap_i64]; omega
  clear hq
  have hnew := fun w : World => m_new (w0 := w) (n := q + 1) (T := List.replicate (q + 1) none) (F := List.range (q + 1)) (k := 1 + (q : Int)) w (But.refl [] w) (by omega) (by omega) (by omega) rfl rfl
  go_enter Try.func4, Try.ntmps4
  go_wp2_with fail
  refine (hnew _).mono ?_
  rintro e w1 ⟨B, V, rfl, hP, -, -, -⟩
  clear hnew
  go_wp2_with (at_make; first | (refine wpList_make_full _ rfl _ _ 46 rfl w1.heap.size 32 i1 (.agg #[.int .i64 0, .int .i64 0, .bool false, .int .i64 0, .int .u64 0]) 5 Try.underlying46 hj jz0 jz1 .i64 .i64 40 40 40 rfl rfl rfl rfl (by rw [jz2]; omega) (by unfold maxLen; omega) (Nat.le_refl _) ?_; intro w2 hownG hgrowG) | (refine wpList_make_full _ rfl _ _ 47 rfl w2.heap.size 4 i0 (.bool false) 1 Try.underlying47 hi hz0 hz1 .i64 .i64 40 40 40 rfl rfl rfl rfl (by rw [hz2]; omega) (by unfold maxLen; omega) (Nat.le_refl _) ?_; intro w3 hownI hgrowI))
  have hB : Below w.heap.size w w3 := ((hP.but.next (But.of_none hgrowG [])).next (But.of_none hgrowI [])).below (Nat.le_refl _) (by simp)
  clear hP hownG hgrowG hownI hgrowI
  refine wp_loop_rounds 1 ?_
  rw [rounds_succ]
  go_wp2_with fail
  refine (alive_any _).mono ?_
  rintro e w4 ⟨rfl, hb⟩
  have hB1 := below_next hB hb
  clear hB hb
  go_wp2_with fail
  go_ret
  exact ⟨rfl, hB1⟩

theorem keeps_walk (n : Nat) (hn : n < 256) (v : Value) (ss : List (Int × Int × Sud)) (w : World) (hs : Steps w v ss) :
    Calls Try.prog 4 #[.int .u8 (n : Int), v] w fun e w' => e = .returned (.bool true) ∧ Below w.heap.size w w' := by
  rcases hs with ⟨rfl, a, cap, rfl⟩ | ⟨b, off, cap, rfl, h0, -, hc⟩
  · exact keeps_none n hn a cap w
  · by_cases hl : 200 < ss.length
    · exact keeps_big _ _ _ cap w hl
    · exact keeps_loop n hn b off cap ss w (by omega) h0 hc
end Go.Proofs.Ytmllalmdaobboaa
