/-
  The walk of order.New.
-/
import Derived.Test.YtamkmmpockmpfaaOTook
namespace Go.Proofs.Ytamkmmpockmpfaa.Od
open Go.RowKit

/-- The numbers from 0 on, so many. -/
def rise (n : Nat) : List Int := (List.range n).map fun (i : Nat) => (i : Int)
/-- The places behind so many rounds. -/
def upTo (i : Nat) : List Int := (List.range 6).map fun (j : Nat) => if j < i then (j : Int) else 0
theorem upTo_len (i : Nat) : (upTo i).length = 6 := by simp [upTo]
theorem upTo_set (i : Nat) : (upTo i).set i (i : Int) = upTo (i + 1) := by
  apply List.ext_getElem?
  intro j
  by_cases hj : j < 6
  · by_cases e : j = i
    · subst e
      rw [List.getElem?_set_self (by rw [upTo_len]; exact hj), upTo, List.getElem?_map, List.getElem?_range hj, Option.map_some, if_pos (by omega)]
    · rw [List.getElem?_set_ne (by omega), upTo, upTo, List.getElem?_map, List.getElem?_map, List.getElem?_range hj, Option.map_some, Option.map_some]
      by_cases h : j < i
      · rw [if_pos h, if_pos (by omega)]
      · rw [if_neg h, if_neg (by omega)]
  · rw [List.getElem?_eq_none (by rw [List.length_set, upTo_len]; omega), List.getElem?_eq_none (by rw [upTo_len]; omega)]
theorem upTo_take {n : Nat} (h : n ≤ 6) : (upTo n).take n = rise n := by
  apply List.ext_getElem?
  intro j
  rw [List.getElem?_take]
  by_cases hj : j < n
  · rw [if_pos hj, upTo, rise, List.getElem?_map, List.getElem?_map, List.getElem?_range hj, List.getElem?_range (by omega), Option.map_some, Option.map_some, if_pos hj]
  · rw [if_neg hj, List.getElem?_eq_none (by simp [rise]; omega)]
theorem rise_perm (n : Nat) : Perm n (rise n) := by
  refine ⟨by simp [rise], ?_, fun x => ?_⟩
  · unfold rise
    refine List.Pairwise.map _ (fun a b hab => ?_) List.nodup_range
    intro e; exact hab (by omega)
  · simp only [rise, List.mem_map, List.mem_range]
    constructor
    · rintro ⟨i, hi, rfl⟩; omega
    · rintro ⟨h0, h1⟩; exact ⟨x.toNat, by omega, by omega⟩

theorem new_bad (k : Int) (w : World) (h : k < 1 ∨ 6 < k) :
    Calls Try.prog 40 #[.int .i64 k] w fun e w' => e = .returned (.tuple #[.pointer none, .int .i64 2]) ∧ w' = w := by
  go_enter Try.func40, Try.ntmps40
  rcases h with h | h
  · go_wp2_with fail
    go_ret2
    exact ⟨rfl, rfl⟩
  · have h' : ¬ k < 1 := by omega
    go_wp2_with fail
    go_ret2
    exact ⟨rfl, rfl⟩

set_option maxHeartbeats 800000 in
theorem new_ok (n : Nat) (w : World) (h0 : 1 ≤ n) (h6 : n ≤ 6) :
    Calls Try.prog 40 #[.int .i64 (n : Int)] w fun e w' => e = .returned (.tuple #[.pointer (some ⟨w.heap.size, 0, none⟩), .int .i64 0]) ∧ Ord w' w.heap.size n (rise n) ∧ But [] w w' := by
  have h' : ¬ (n : Int) < 1 := by omega
  have h'' : ¬ (6 : Int) < (n : Int) := by omega
  have n6 : (n : Int) ≤ 6 := by omega
  have hraw : RawO (w.alloc (.cells (I64 (upTo 0) ++ [Value.int .i64 (n : Int)]).toArray 110)) w.heap.size (upTo 0) n := ⟨upTo_len 0, World.alloc_heap_new w _⟩
  have hbut : But [] w (w.alloc (.cells (I64 (upTo 0) ++ [Value.int .i64 (n : Int)]).toArray 110)) := (But.refl _ _).alloc _
  have hrow := row_raw _ hraw h6
  go_enter Try.func40, Try.ntmps40
  go_wp2_with fail
  refine hrow.mono ?_
  rintro e w1 ⟨rfl, q, rfl⟩
  have hraw1 : RawO ((w.alloc (.cells (I64 (upTo 0) ++ [Value.int .i64 (n : Int)]).toArray 110)).drewN q) w.heap.size (upTo 0) n := hraw
  have hbut1 := hbut.drewN q
  generalize (w.alloc (.cells (I64 (upTo 0) ++ [Value.int .i64 (n : Int)]).toArray 110)).drewN q = W at hraw1 hbut1
  obtain ⟨B, hB⟩ : ∃ B, B = w.heap.size := ⟨_, rfl⟩
  rw [← hB] at hraw1 ⊢
  have HB := Lib.hid hB
  clear hrow hraw hbut hB
  go_wp2_with fail
  go_loopw [18] (fun iv wr => ∃ i : Nat, i ≤ n ∧ iv = .int .i64 (i : Int) ∧ RawO wr B (upTo i) n ∧ But [] w wr) (fun iv _ => n - (intOf iv).toNat)
  case atStart => exact ⟨0, Nat.zero_le _, rfl, hraw1, hbut1⟩
  case round =>
    clear hraw1 hbut1
    obtain ⟨i, hi, rfl, hr, hb⟩ := hrel
    by_cases hlt : i < n
    · have hlt' : (i : Int) < (n : Int) := by omega
      have i0 : (0 : Int) ≤ (i : Int) := by omega
      have i6 : (i : Int) < 6 := by omega
      have hf := hr.frozen i
      have hc := hr.cellV (k := i) (by omega)
      have hr2 := hr.setV (k := i) (by omega) (i : Int)
      rw [upTo_set] at hr2
      have hb2 : But [] w (wr.setCell ⟨B, i, none⟩ (.int .i64 (i : Int))) := hb.set (.inr (by have := HB.out; simp; omega)) _
      have HR := Lib.hid hr2
      have HB2 := Lib.hid hb2
      clear hr2 hb2 hr hb
      go_wp2_with fail
      go_roundw
      case rel => exact ⟨i + 1, by omega, by go_num, HR.out, HB2.out⟩
      case measure => simp [intOf]; omega
    · obtain rfl : i = n := by omega
      have hlt' : ¬ ((i : Int) < (i : Int)) := by omega
      have hB := HB.out
      subst hB
      clear HB
      go_wp2_with fail
      go_ret2
      exact ⟨rfl, ⟨⟨_, hr, (upTo_take h6).symm⟩, h0, h6, rise_perm _⟩, hb⟩
end Go.Proofs.Ytamkmmpockmpfaa.Od
