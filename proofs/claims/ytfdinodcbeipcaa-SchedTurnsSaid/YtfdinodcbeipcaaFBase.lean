/-
  The walks of fifo.place, Len, New.
-/
import Derived.Test.YtfdinodcbeipcaaFMath
namespace Go.Proofs.Ytfdinodcbeipcaa
open Go.RowKit

theorem slot_int (f i : Nat) : ((f : Int) + (i : Int)) % 32 = (slotOf f i : Int) := by
  unfold slotOf; omega

theorem place_raw {B : Nat} {vs : List Int} {f n m i : Nat} (w : World) (h : RawAt w B vs f n m) (hf : f < 32) (hi : i ≤ 32) :
    Calls Try.prog 40 #[.pointer (some ⟨B, 0, none⟩), .int .i64 (i : Int)] w fun e w' => e = .returned (.int .i64 (slotOf f i : Int)) ∧ w' = w := by
  have hF := h.cellF
  clear h
  go_enter Try.func40, Try.ntmps40
  go_wp2_with fail
  go_ret
  exact ⟨by rw [← slot_int]; rfl, rfl⟩

theorem len_raw {B m n f : Nat} {vs : List Int} (w : World) (h : RawAt w B vs f n m) :
    Calls Try.prog 32 #[.pointer (some ⟨B, 0, none⟩)] w fun e w' => e = .returned (.int .i64 (n : Int)) ∧ w' = w := by
  have hn := h.cellN
  clear h
  go_enter Try.func32, Try.ntmps32
  go_wp2_with fail
  go_ret
  exact ⟨rfl, rfl⟩
theorem len_any {B m : Nat} {l : List Int} (w : World) (h : Fif w B m l) :
    Calls Try.prog 32 #[.pointer (some ⟨B, 0, none⟩)] w fun e w' => e = .returned (.int .i64 (l.length : Int)) ∧ w' = w := by
  obtain ⟨vs, f, hr, _⟩ := h.raw
  exact len_raw w hr
theorem len_nil (w : World) :
    Calls Try.prog 32 #[.pointer none] w fun e w' => e = .returned (.int .i64 0) ∧ w' = w := by
  go_enter Try.func32, Try.ntmps32
  go_wp2_with fail
  go_ret
  exact ⟨rfl, rfl⟩

theorem new_bad (k : Int) (w : World) (h : k < 1 ∨ 32 < k) :
    Calls Try.prog 28 #[.int .i64 k] w fun e w' => e = .returned (.tuple #[.pointer none, .int .i64 2]) ∧ w' = w := by
  go_enter Try.func28, Try.ntmps28
  rcases h with h | h
  · go_wp2_with fail
    go_ret2
    exact ⟨rfl, rfl⟩
  · have h' : ¬ k < 1 := by omega
    go_wp2_with fail
    go_ret2
    exact ⟨rfl, rfl⟩
theorem new_ok (m : Nat) (w : World) (h0 : 1 ≤ m) (h : m ≤ 32) :
    Calls Try.prog 28 #[.int .i64 (m : Int)] w fun e w' => e = .returned (.tuple #[.pointer (some ⟨w.heap.size, 0, none⟩), .int .i64 0]) ∧ Fif w' w.heap.size m [] ∧ But [] w w' := by
  have h' : ¬ (m : Int) < 1 := by omega
  have h'' : ¬ (32 : Int) < (m : Int) := by omega
  go_enter Try.func28, Try.ntmps28
  go_wp2_with fail
  go_ret2
  refine ⟨rfl, ⟨⟨List.replicate 32 0, 0, ⟨rfl, World.alloc_heap_new w _⟩, rfl, by omega⟩, by simp, h, List.nodup_nil, by simp⟩, (But.refl _ _).alloc _⟩

theorem copy_nil (w : World) :
    Calls Try.prog 36 #[.pointer none] w fun e w' => e = .returned (.pointer none) ∧ w' = w := by
  go_enter Try.func36, Try.ntmps36
  go_wp2_with fail
  go_ret
  exact ⟨rfl, rfl⟩
end Go.Proofs.Ytfdinodcbeipcaa
