/-
  The walks of ring.New, Len, Cap, Copy, place, place$1.
-/
import Derived.StillTailTactics
import Derived.Test.YtkpnkhakjgfgfaaRMath
namespace Go.Proofs.Ytkpnkhakjgfgfaa.Rg
open Go.RowKit

theorem len_ring {B m : Nat} {l : List Int} (w : World) (h : Rng w B m l) :
    Calls Try.prog 64 #[.pointer (some ⟨B, 0, none⟩)] w fun e w' => e = .returned (.int .i64 (l.length : Int)) ∧ w' = w := by
  obtain ⟨vs, f, hr, -⟩ := h
  have hn := hr.cellN
  clear hr
  go_enter Try.func64, Try.ntmps64
  go_wp2_with fail
  go_ret
  exact ⟨rfl, rfl⟩
theorem len_nil (w : World) :
    Calls Try.prog 64 #[.pointer none] w fun e w' => e = .returned (.int .i64 0) ∧ w' = w := by
  go_enter Try.func64, Try.ntmps64
  go_wp2_with fail
  go_ret
  exact ⟨rfl, rfl⟩
theorem cap_ring {B m : Nat} {l : List Int} (w : World) (h : Rng w B m l) :
    Calls Try.prog 48 #[.pointer (some ⟨B, 0, none⟩)] w fun e w' => e = .returned (.int .i64 (m : Int)) ∧ w' = w := by
  obtain ⟨vs, f, hr, -⟩ := h
  have hn := hr.cellM
  clear hr
  go_enter Try.func48, Try.ntmps48
  go_wp2_with fail
  go_ret
  exact ⟨rfl, rfl⟩
theorem cap_nil (w : World) :
    Calls Try.prog 48 #[.pointer none] w fun e w' => e = .returned (.int .i64 0) ∧ w' = w := by
  go_enter Try.func48, Try.ntmps48
  go_wp2_with fail
  go_ret
  exact ⟨rfl, rfl⟩

theorem slot_int (f i : Nat) : ((f : Int) + (i : Int)).tmod 8 = (slotOf f i : Int) := by
  unfold slotOf; rw [Int.tmod_eq_emod_of_nonneg (by omega)]; omega
theorem slot_int' (f i : Nat) : ((f : Int) + (i : Int)) % 8 = (slotOf f i : Int) := by
  unfold slotOf; omega

theorem place1_ring {B C : Nat} {vs : List Int} {f n m i : Nat} (w : World) (h : RawAt w B vs f n m) (hf : f < 8) (hi : i ≤ 8) (hc : w.cell? ⟨C, 0, none⟩ = some (.pointer (some ⟨B, 0, none⟩))) :
    Calls Try.prog 62 #[.int .i64 (i : Int), .pointer (some ⟨C, 0, none⟩)] w fun e w' => e = .returned (.int .i64 (slotOf f i : Int)) ∧ w' = w := by
  have hF := h.cellF
  clear h
  go_enter Try.func62, Try.ntmps62
  go_wp2_with fail
  go_ret
  exact ⟨by rw [← slot_int']; rfl, rfl⟩

theorem new_bad (k : Int) (w : World) (h1 : -9223372036854775808 ≤ k) (h2 : k ≤ 9223372036854775807) (h : k < 0 ∨ 8 < k) :
    Calls Try.prog 34 #[.int .i64 k] w fun e w' => e = .returned (.tuple #[.pointer none, .int .i64 2]) ∧ w' = w := by
  go_enter Try.func34, Try.ntmps34
  rcases h with h | h
  · go_wp2_with fail
    go_ret2
    exact ⟨rfl, rfl⟩
  · have h' : ¬ k < 0 := by omega
    go_wp2_with fail
    go_ret2
    exact ⟨rfl, rfl⟩
theorem new_ok (m : Nat) (w : World) (h : m ≤ 8) :
    Calls Try.prog 34 #[.int .i64 (m : Int)] w fun e w' => e = .returned (.tuple #[.pointer (some ⟨w.heap.size, 0, none⟩), .int .i64 0]) ∧ Rng w' w.heap.size m [] ∧ w.grownBy w' none := by
  have h' : ¬ (m : Int) < 0 := by omega
  have h'' : ¬ (8 : Int) < (m : Int) := by omega
  go_enter Try.func34, Try.ntmps34
  go_wp2_with fail
  go_ret2
  refine ⟨rfl, ⟨[0, 0, 0, 0, 0, 0, 0, 0], 0, ⟨rfl, World.alloc_heap_new w _⟩, rfl, by omega, by simp, h⟩, World.grownBy_alloc _ _ _⟩

end Go.Proofs.Ytkpnkhakjgfgfaa.Rg
