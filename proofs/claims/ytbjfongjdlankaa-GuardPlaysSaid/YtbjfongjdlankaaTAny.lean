/-
  Draw, Mine, Give, Waiting, Free of whatever lock; at known answers; the walk of the law's alive.
-/
import Derived.Test.YtbjfongjdlankaaTNew
namespace Go.Proofs.Ytbjfongjdlankaa
open Go.RowKit

theorem next_in {base n k len : Nat} (hk : k < n) (h : base + 2 * n ≤ len) : nextAt base k < len := by unfold nextAt; omega
theorem served_in {base n k len : Nat} (hk : k < n) (h : base + 2 * n ≤ len) : servedAt base k < len := by unfold servedAt; omega

theorem draw_any {L P Q B V base n c : Nat} {vs : List Nat} (k : Int) (w : World) (h : Lks w L P Q B base n) (hC : Cels w B V vs c) (hl : base + 2 * n ≤ vs.length) :
    Calls Try.prog 30 #[.pointer (some ⟨L, 0, none⟩), .int .i64 k] w fun e w' => e = .returned (.int .u16 (drawE base n vs k : Int)) ∧ Cels w' B V (drawV base n vs k) (countUp n c k) ∧ But [B, V] w w' := by
  cases hin : inRow n k with
  | true =>
    obtain ⟨j, rfl, hj⟩ := inRow_nat hin
    rw [drawE, drawV, countUp, if_pos hin, if_pos hin, if_pos hin, Int.toNat_natCast]
    exact draw_there j w h hC hj (next_in hj hl)
  | false =>
    rw [drawE, drawV, countUp, hin]
    refine (draw_none k w (cells_out k w h hin)).mono ?_
    rintro e w' ⟨rfl, rfl⟩
    exact ⟨rfl, hC, .refl _ _⟩
theorem give_any {L P Q B V base n c : Nat} {vs : List Nat} (k : Int) (w : World) (h : Lks w L P Q B base n) (hC : Cels w B V vs c) (hl : base + 2 * n ≤ vs.length) :
    Calls Try.prog 40 #[.pointer (some ⟨L, 0, none⟩), .int .i64 k] w fun e w' => e = .returned (.tuple #[]) ∧ Cels w' B V (giveV base n vs k) (countUp n c k) ∧ But [B, V] w w' := by
  cases hin : inRow n k with
  | true =>
    obtain ⟨j, rfl, hj⟩ := inRow_nat hin
    rw [giveV, countUp, if_pos hin, if_pos hin, Int.toNat_natCast]
    exact give_there j w h hC hj (served_in hj hl)
  | false =>
    rw [giveV, countUp, hin]
    refine (give_none k w (cells_out k w h hin)).mono ?_
    rintro e w' ⟨rfl, rfl⟩
    exact ⟨rfl, hC, .refl _ _⟩
theorem mine_any {L P Q B V base n c : Nat} {vs : List Nat} (k : Int) (t : Nat) (w : World) (h : Lks w L P Q B base n) (hC : Cels w B V vs c) (hl : base + 2 * n ≤ vs.length) :
    Calls Try.prog 31 #[.pointer (some ⟨L, 0, none⟩), .int .i64 k, .int .u16 (t : Int)] w fun e w' => e = .returned (.bool (mineE base n vs k t)) ∧ Cels w' B V vs (countUp n c k) ∧ But [B, V] w w' := by
  cases hin : inRow n k with
  | true =>
    obtain ⟨j, rfl, hj⟩ := inRow_nat hin
    rw [mineE, countUp, if_pos hin, hin, Bool.true_and, Int.toNat_natCast]
    exact mine_there j t w h hC hj (served_in hj hl)
  | false =>
    rw [mineE, countUp, hin]
    refine (mine_none k _ w (cells_out k w h hin)).mono ?_
    rintro e w' ⟨rfl, rfl⟩
    exact ⟨rfl, hC, .refl _ _⟩
theorem wait_any {L P Q B V base n c : Nat} {vs : List Nat} (k : Int) (w : World) (h : Lks w L P Q B base n) (hC : Cels w B V vs c) (hl : base + 2 * n ≤ vs.length) :
    Calls Try.prog 43 #[.pointer (some ⟨L, 0, none⟩), .int .i64 k] w fun e w' => e = .returned (.int .i64 (waitE base n vs k : Int)) ∧ ∃ m, w' = w.drewN m := by
  cases hin : inRow n k with
  | true =>
    obtain ⟨j, rfl, hj⟩ := inRow_nat hin
    rw [waitE, if_pos hin, Int.toNat_natCast]
    exact wait_there j w h hC hj (served_in hj hl)
  | false =>
    rw [waitE, hin]
    refine (wait_none k w (cells_out k w h hin)).mono ?_
    rintro e w' ⟨rfl, rfl⟩
    exact ⟨rfl, 0, rfl⟩
theorem free_any {L P Q B V base n c : Nat} {vs : List Nat} (k : Int) (w : World) (h : Lks w L P Q B base n) (hC : Cels w B V vs c) (hl : base + 2 * n ≤ vs.length) :
    Calls Try.prog 24 #[.pointer (some ⟨L, 0, none⟩), .int .i64 k] w fun e w' => e = .returned (.bool (freeE base n vs k)) ∧ ∃ m, w' = w.drewN m := by
  cases hin : inRow n k with
  | true =>
    obtain ⟨j, rfl, hj⟩ := inRow_nat hin
    rw [freeE, waitE, if_pos hin, hin, Bool.true_and, Int.toNat_natCast]
    exact free_there j w h hC hj (served_in hj hl)
  | false =>
    rw [freeE, hin]
    refine (free_none k w (cells_out k w h hin)).mono ?_
    rintro e w' ⟨rfl, rfl⟩
    exact ⟨rfl, 0, rfl⟩

/-! ### At known answers -/
theorem draw_at {L P Q B V base n c c' : Nat} {vs vs' : List Nat} {k x : Int} (w : World) (h : Lks w L P Q B base n) (hC : Cels w B V vs c) (hl : base + 2 * n ≤ vs.length) (H : Hid ((drawE base n vs k : Int) = x ∧ drawV base n vs k = vs' ∧ countUp n c k = c')) :
    Calls Try.prog 30 #[.pointer (some ⟨L, 0, none⟩), .int .i64 k] w fun e w' => e = .returned (.int .u16 x) ∧ Cels w' B V vs' c' ∧ But [B, V] w w' := by
  obtain ⟨rfl, rfl, rfl⟩ := H.out
  exact draw_any k w h hC hl
theorem give_at {L P Q B V base n c c' : Nat} {vs vs' : List Nat} {k : Int} (w : World) (h : Lks w L P Q B base n) (hC : Cels w B V vs c) (hl : base + 2 * n ≤ vs.length) (H : Hid (giveV base n vs k = vs' ∧ countUp n c k = c')) :
    Calls Try.prog 40 #[.pointer (some ⟨L, 0, none⟩), .int .i64 k] w fun e w' => e = .returned (.tuple #[]) ∧ Cels w' B V vs' c' ∧ But [B, V] w w' := by
  obtain ⟨rfl, rfl⟩ := H.out
  exact give_any k w h hC hl
theorem mine_at {L P Q B V base n c c' t : Nat} {vs : List Nat} {k x : Int} {b : Bool} (w : World) (h : Lks w L P Q B base n) (hC : Cels w B V vs c) (hl : base + 2 * n ≤ vs.length) (H : Hid (x = (t : Int) ∧ mineE base n vs k t = b ∧ countUp n c k = c')) :
    Calls Try.prog 31 #[.pointer (some ⟨L, 0, none⟩), .int .i64 k, .int .u16 x] w fun e w' => e = .returned (.bool b) ∧ Cels w' B V vs c' ∧ But [B, V] w w' := by
  obtain ⟨rfl, rfl, rfl⟩ := H.out
  exact mine_any k t w h hC hl
theorem wait_at {L P Q B V base n c : Nat} {vs : List Nat} {k x : Int} (w : World) (h : Lks w L P Q B base n) (hC : Cels w B V vs c) (hl : base + 2 * n ≤ vs.length) (H : Hid ((waitE base n vs k : Int) = x)) :
    Calls Try.prog 43 #[.pointer (some ⟨L, 0, none⟩), .int .i64 k] w fun e w' => e = .returned (.int .i64 x) ∧ ∃ m, w' = w.drewN m := by
  obtain rfl := H.out
  exact wait_any k w h hC hl
theorem free_at {L P Q B V base n c : Nat} {vs : List Nat} {k : Int} {b : Bool} (w : World) (h : Lks w L P Q B base n) (hC : Cels w B V vs c) (hl : base + 2 * n ≤ vs.length) (H : Hid (freeE base n vs k = b)) :
    Calls Try.prog 24 #[.pointer (some ⟨L, 0, none⟩), .int .i64 k] w fun e w' => e = .returned (.bool b) ∧ ∃ m, w' = w.drewN m := by
  obtain rfl := H.out
  exact free_any k w h hC hl

/-! ### alive -/
end Go.Proofs.Ytbjfongjdlankaa
