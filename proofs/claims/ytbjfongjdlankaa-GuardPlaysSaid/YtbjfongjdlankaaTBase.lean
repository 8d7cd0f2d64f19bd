/-
  The walks of ticket.New$1, cells, New, Draw, Mine, Give, Len.
-/
import Derived.Test.YtbjfongjdlankaaTMath
namespace Go.Proofs.Ytbjfongjdlankaa
open Go.RowKit

theorem pair_there {P Q base n : Nat} (k : Nat) (w : World) (hN : Boxed w P 3 (.int .i64 (n : Int))) (hB : Boxed w Q 3 (.int .i64 (base : Int))) (hr : base + 2 * n ≤ 4096) (hk : k < n) :
    Calls Try.prog 45 #[.int .i64 (k : Int), .pointer (some ⟨P, 0, none⟩), .pointer (some ⟨Q, 0, none⟩)] w fun e w' => e = .returned (.tuple #[.int .i64 (nextAt base k : Int), .int .i64 (servedAt base k : Int), .bool true]) ∧ w' = w := by
  have c1 := hN.cell
  have c2 := hB.cell
  have t1 : decide ((k : Int) < 0) = false := by simp
  have t2 : decide ((n : Int) ≤ (k : Int)) = false := by simp; omega
  have t3 : ¬ (n : Int) ≤ (k : Int) := by omega
  have e1 : Hid ((nextAt base k : Int) = (base : Int) + 2 * (k : Int)) := Lib.hid (by unfold nextAt; omega)
  have e2 : Hid ((servedAt base k : Int) = (base : Int) + 2 * (k : Int) + 1) := Lib.hid (by unfold servedAt; omega)
  clear hN hB
  go_enter Try.func45, Try.ntmps45
  go_wp2_with fail
  go_ret3
  exact ⟨by rw [e1.out, e2.out]; rfl, rfl⟩
theorem pair_out {P Q n : Nat} (k : Int) (w : World) (hN : Boxed w P 3 (.int .i64 (n : Int))) (hk : inRow n k = false) :
    Calls Try.prog 45 #[.int .i64 k, .pointer (some ⟨P, 0, none⟩), .pointer (some ⟨Q, 0, none⟩)] w fun e w' => e = .returned (.tuple #[.int .i64 0, .int .i64 0, .bool false]) ∧ w' = w := by
  have c1 := hN.cell
  have hk' := of_decide_eq_false hk
  clear hN hk
  by_cases h0 : k < 0
  · have t1 : decide (k < 0) = true := decide_eq_true h0
    go_enter Try.func45, Try.ntmps45
    go_wp2_with fail
    go_ret3
    exact ⟨rfl, rfl⟩
  · have t1 : decide (k < 0) = false := decide_eq_false h0
    have t3 : (n : Int) ≤ k := by omega
    have t2 : decide ((n : Int) ≤ k) = true := decide_eq_true t3
    go_enter Try.func45, Try.ntmps45
    go_wp2_with fail
    go_ret3
    exact ⟨rfl, rfl⟩

theorem cells_nil (k : Int) (w : World) :
    Calls Try.prog 42 #[.pointer none, .int .i64 k] w fun e w' => e = .returned (.tuple #[.int .i64 0, .int .i64 0, .bool false]) ∧ w' = w := by
  go_enter Try.func42, Try.ntmps42
  go_wp2_with fail
  go_ret3
  exact ⟨rfl, rfl⟩
theorem cells_there {L P Q B base n : Nat} (k : Nat) (w : World) (h : Lks w L P Q B base n) (hk : k < n) :
    Calls Try.prog 42 #[.pointer (some ⟨L, 0, none⟩), .int .i64 (k : Int)] w fun e w' => e = .returned (.tuple #[.int .i64 (nextAt base k : Int), .int .i64 (servedAt base k : Int), .bool true]) ∧ w' = w := by
  have c2 := h.cell2
  have hcall := pair_there k w h.boxN h.boxB h.room hk
  clear h
  go_enter Try.func42, Try.ntmps42
  go_wp2_with fail
  refine hcall.mono ?_
  rintro e w' ⟨rfl, rfl⟩
  go_wp2_with fail
  go_ret3
  exact ⟨rfl, rfl⟩
theorem cells_out {L P Q B base n : Nat} (k : Int) (w : World) (h : Lks w L P Q B base n) (hk : inRow n k = false) :
    Calls Try.prog 42 #[.pointer (some ⟨L, 0, none⟩), .int .i64 k] w fun e w' => e = .returned (.tuple #[.int .i64 0, .int .i64 0, .bool false]) ∧ w' = w := by
  have c2 := h.cell2
  have hcall := pair_out (Q := Q) k w h.boxN hk
  clear h hk
  go_enter Try.func42, Try.ntmps42
  go_wp2_with fail
  refine hcall.mono ?_
  rintro e w' ⟨rfl, rfl⟩
  go_wp2_with fail
  go_ret3
  exact ⟨rfl, rfl⟩
end Go.Proofs.Ytbjfongjdlankaa
