/-
  The walk of the law TicketOne, whatever comes in.
-/
import Derived.Test.YtednclgfgekgbaaTOne
namespace Go.Proofs.Ytednclgfgekgbaa
open Go.RowKit

set_option maxRecDepth 100000 in
set_option maxHeartbeats 400000 in
theorem one_big (f : Int) (a : Option Addr) (n cap : Nat) (w : World) (hn : 600 < n) :
    Calls Try.prog 4 #[.int .u16 f, .slice a n cap] w fun e w' => e = .returned (.bool true) ∧ Below w.heap.size w w' := by
  have hl2 : (600 : Int) < (n : Int) := by omega
  go_enter Try.func4, Try.ntmps4
  go_wp2_with fail
  refine (alive_any _).mono ?_
  rintro e w1 ⟨rfl, hb⟩
  go_wp2_with fail
  go_ret
  exact ⟨rfl, hb⟩

set_option maxRecDepth 100000 in
set_option maxHeartbeats 400000 in
theorem one_none (f : Nat) (hf : f < 65536) (a : Option Addr) (cap : Nat) (w : World) :
    Calls Try.prog 4 #[.int .u16 (f : Int), .slice a 0 cap] w fun e w' => e = .returned (.bool true) ∧ Below w.heap.size w w' := by
  go_enter Try.func4, Try.ntmps4
  go_wp2_with fail
  refine (cell_new_at (n := 4) _ (Lib.hid rfl) (by omega) (by omega)).mono ?_
  rintro e w1 ⟨B, V, rfl, hC, hV, hB, hz⟩
  have hC1 : Cels w1 B V [0, 0, 0, 0] 0 := hC
  clear hC
  go_wp2_with fail
  refine (tnew_at (base := 0) (n := 2) _ hC1 (by omega) (by omega) (by simp) (Lib.hid ⟨rfl, rfl⟩)).mono ?_
  rintro e w2 ⟨L, P, Q, rfl, hL, hg⟩
  have hC2 := hC1.but hg (by simp) (by simp)
  have hz2 := hz.next hg
  clear hC1 hg hz hL
  go_wp2_with fail
  refine (write_at (y := f) (vs' := [0, 0, f, 0]) (c' := 1) _ hC2 (by omega) (by omega) (by omega) (Lib.hid ⟨rfl, rfl⟩)).mono ?_
  rintro e w3 ⟨rfl, hC3, hg⟩
  have hz3 := hz2.own hg hB hV
  clear hC2 hg hz2
  go_wp2_with fail
  refine (write_at (y := f) (vs' := [0, 0, f, f]) (c' := 2) _ hC3 (by omega) (by omega) (by omega) (Lib.hid ⟨rfl, rfl⟩)).mono ?_
  rintro e w4 ⟨rfl, hC4, hg⟩
  have hz4 := hz3.own hg hB hV
  have hz5 := hz4.alloc (.cells #[.int .i64 0, .int .u16 0, .int .i64 0, .int .u16 0, .int .i64 0, .int .u16 0, .int .i64 0, .int .u16 0, .int .i64 0, .int .u16 0, .int .i64 0, .int .u16 0, .int .i64 0, .int .u16 0] 55)
  clear hC3 hC4 hg hz3 hz4
  go_wp2_with fail
  refine wp_loop_rounds 1 ?_
  rw [rounds_succ]
  go_wp2_with fail
  refine (alive_any _).mono ?_
  rintro e wz ⟨rfl, hbz⟩
  have hB' : Below w.heap.size w wz := (hz5.below (Nat.le_refl _) (by simp)).trans (hbz.mono hz5.size)
  clear hz5 hbz
  go_wp2_with fail
  go_ret
  exact ⟨rfl, hB'⟩

/-- The slice value reads as these bytes. -/
def RowB (w : World) (v : Value) (xs : List Nat) : Prop :=
  (xs = [] ∧ ∃ a cap, v = .slice a 0 cap) ∨
  (∃ b off cap, v = .slice (some ⟨b, off, none⟩) xs.length cap ∧ 0 < xs.length ∧ b < w.heap.size ∧ ∀ j, j < xs.length → w.cell? ⟨b, off + j, none⟩ = some (.int .u8 (xs[j]?.getD 0 : Nat)) ∧ xs[j]?.getD 0 < 256)

theorem one_walk (f : Nat) (hf : f < 65536) (v : Value) (xs : List Nat) (w : World) (hr : RowB w v xs) :
    Calls Try.prog 4 #[.int .u16 (f : Int), v] w fun e w' => e = .returned (.bool true) ∧ Below w.heap.size w w' := by
  rcases hr with ⟨rfl, a, cap, rfl⟩ | ⟨b, off, cap, rfl, h0, -, hc⟩
  · exact one_none f hf a cap w
  · by_cases hl : 600 < xs.length
    · exact one_big f _ _ cap w hl
    · exact one_loop f b off cap xs hf w (by omega) h0 hc
end Go.Proofs.Ytednclgfgekgbaa
