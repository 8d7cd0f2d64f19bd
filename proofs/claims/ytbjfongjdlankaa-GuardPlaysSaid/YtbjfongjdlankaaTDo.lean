/-
  The walks of ticket.Draw, Mine, Give, Waiting, Free, Len.
-/
import Derived.Test.YtbjfongjdlankaaTBase
namespace Go.Proofs.Ytbjfongjdlankaa
open Go.RowKit

theorem tick_wrap (x : Nat) : IntKind.u16.wrap (x : Int) = (tick x : Int) := by
  rw [IntKind.wrap_u16]; unfold tick; omega
theorem beq_nat (x t : Nat) : Hid (((x : Int) == (t : Int)) = decide (x = t)) := Lib.hid (by
  by_cases h : x = t
  · subst h; simp
  · have : ¬ (x : Int) = (t : Int) := by omega
    simp [h, this])
theorem wait_wrap {a b : Nat} (ha : a < 18446744073709551616) (hb : b < 18446744073709551616) : Hid (wrap64 (IntKind.u16.wrap (IntKind.u64.wrap ((a : Int) - (b : Int)))) = (tick (minus a b) : Int)) := Lib.hid (by
  simp only [wrap64, IntKind.wrap_u64, IntKind.wrap_u16]; unfold tick minus; omega)
theorem plus_one (x : Nat) : plus x 1 = up x := rfl
theorem inRow_of {n k : Nat} (h : k < n) : inRow n (k : Int) = true := decide_eq_true (by omega)

theorem tlen_any {L P Q B base n : Nat} (w : World) (h : Lks w L P Q B base n) :
    Calls Try.prog 50 #[.pointer (some ⟨L, 0, none⟩)] w fun e w' => e = .returned (.int .i64 (n : Int)) ∧ w' = w := by
  have c1 := h.cell1
  clear h
  go_enter Try.func50, Try.ntmps50
  go_wp2_with fail
  go_ret
  exact ⟨rfl, rfl⟩
theorem tlen_nil (w : World) :
    Calls Try.prog 50 #[.pointer none] w fun e w' => e = .returned (.int .i64 0) ∧ w' = w := by
  go_enter Try.func50, Try.ntmps50
  go_wp2_with fail
  go_ret
  exact ⟨rfl, rfl⟩

theorem draw_none {p : Option Addr} (k : Int) (w : World) (hcall : Calls Try.prog 42 #[.pointer p, .int .i64 k] w fun e w' => e = .returned (.tuple #[.int .i64 0, .int .i64 0, .bool false]) ∧ w' = w) :
    Calls Try.prog 30 #[.pointer p, .int .i64 k] w fun e w' => e = .returned (.int .u16 0) ∧ w' = w := by
  go_enter Try.func30, Try.ntmps30
  go_wp2_with fail
  refine hcall.mono ?_
  rintro e w' ⟨rfl, rfl⟩
  go_wp2_with fail
  go_ret
  exact ⟨rfl, rfl⟩
theorem mine_none {p : Option Addr} (k t : Int) (w : World) (hcall : Calls Try.prog 42 #[.pointer p, .int .i64 k] w fun e w' => e = .returned (.tuple #[.int .i64 0, .int .i64 0, .bool false]) ∧ w' = w) :
    Calls Try.prog 31 #[.pointer p, .int .i64 k, .int .u16 t] w fun e w' => e = .returned (.bool false) ∧ w' = w := by
  go_enter Try.func31, Try.ntmps31
  go_wp2_with fail
  refine hcall.mono ?_
  rintro e w' ⟨rfl, rfl⟩
  go_wp2_with fail
  go_ret
  exact ⟨rfl, rfl⟩
theorem give_none {p : Option Addr} (k : Int) (w : World) (hcall : Calls Try.prog 42 #[.pointer p, .int .i64 k] w fun e w' => e = .returned (.tuple #[.int .i64 0, .int .i64 0, .bool false]) ∧ w' = w) :
    Calls Try.prog 40 #[.pointer p, .int .i64 k] w fun e w' => e = .returned (.tuple #[]) ∧ w' = w := by
  go_enter Try.func40, Try.ntmps40
  go_wp2_with fail
  refine hcall.mono ?_
  rintro e w' ⟨rfl, rfl⟩
  go_wp2_with fail
  go_end0
  exact ⟨rfl, rfl⟩
theorem wait_none {p : Option Addr} (k : Int) (w : World) (hcall : Calls Try.prog 42 #[.pointer p, .int .i64 k] w fun e w' => e = .returned (.tuple #[.int .i64 0, .int .i64 0, .bool false]) ∧ w' = w) :
    Calls Try.prog 43 #[.pointer p, .int .i64 k] w fun e w' => e = .returned (.int .i64 0) ∧ w' = w := by
  go_enter Try.func43, Try.ntmps43
  go_wp2_with fail
  refine hcall.mono ?_
  rintro e w' ⟨rfl, rfl⟩
  go_wp2_with fail
  go_ret
  exact ⟨rfl, rfl⟩
theorem free_none {p : Option Addr} (k : Int) (w : World) (hcall : Calls Try.prog 42 #[.pointer p, .int .i64 k] w fun e w' => e = .returned (.tuple #[.int .i64 0, .int .i64 0, .bool false]) ∧ w' = w) :
    Calls Try.prog 24 #[.pointer p, .int .i64 k] w fun e w' => e = .returned (.bool false) ∧ w' = w := by
  go_enter Try.func24, Try.ntmps24
  go_wp2_with fail
  refine hcall.mono ?_
  rintro e w' ⟨rfl, rfl⟩
  go_wp2_with fail
  go_ret
  exact ⟨rfl, rfl⟩

theorem draw_there {L P Q B V base n c : Nat} {vs : List Nat} (k : Nat) (w : World) (h : Lks w L P Q B base n) (hC : Cels w B V vs c) (hk : k < n) (hin : nextAt base k < vs.length) :
    Calls Try.prog 30 #[.pointer (some ⟨L, 0, none⟩), .int .i64 (k : Int)] w fun e w' => e = .returned (.int .u16 (tick (nth vs (nextAt base k)) : Int)) ∧ Cels w' B V (vs.set (nextAt base k) (up (nth vs (nextAt base k)))) (up c) ∧ But [B, V] w w' := by
  have c0 := h.cell0
  have hcall := cells_there k w h hk
  have hadd := cell_add (nextAt base k : Int) 1 w hC (by omega) (by have := hC.len; omega)
  rw [cellAt_nat hin, addAt, putAt, countUp, inRow_of hin, if_pos rfl, if_pos rfl, cellAt_nat hin, Int.toNat_natCast, plus_one] at hadd
  have hw := tick_wrap (nth vs (nextAt base k))
  clear h hC hin
  go_enter Try.func30, Try.ntmps30
  go_wp2_with fail
  refine hcall.mono ?_
  rintro e w' ⟨rfl, rfl⟩
  go_wp2_with fail
  refine hadd.mono ?_
  rintro e w2 ⟨rfl, hC2, hB2⟩
  go_wp2_with fail
  go_ret
  exact ⟨rfl, hC2, hB2⟩
theorem give_there {L P Q B V base n c : Nat} {vs : List Nat} (k : Nat) (w : World) (h : Lks w L P Q B base n) (hC : Cels w B V vs c) (hk : k < n) (hin : servedAt base k < vs.length) :
    Calls Try.prog 40 #[.pointer (some ⟨L, 0, none⟩), .int .i64 (k : Int)] w fun e w' => e = .returned (.tuple #[]) ∧ Cels w' B V (vs.set (servedAt base k) (up (nth vs (servedAt base k)))) (up c) ∧ But [B, V] w w' := by
  have c0 := h.cell0
  have hcall := cells_there k w h hk
  have hadd := cell_add (servedAt base k : Int) 1 w hC (by omega) (by have := hC.len; omega)
  rw [cellAt_nat hin, addAt, putAt, countUp, inRow_of hin, if_pos rfl, if_pos rfl, cellAt_nat hin, Int.toNat_natCast, plus_one] at hadd
  clear h hC hin
  go_enter Try.func40, Try.ntmps40
  go_wp2_with fail
  refine hcall.mono ?_
  rintro e w' ⟨rfl, rfl⟩
  go_wp2_with fail
  refine hadd.mono ?_
  rintro e w2 ⟨rfl, hC2, hB2⟩
  go_wp2_with fail
  go_end0
  exact ⟨rfl, hC2, hB2⟩
theorem mine_there {L P Q B V base n c : Nat} {vs : List Nat} (k t : Nat) (w : World) (h : Lks w L P Q B base n) (hC : Cels w B V vs c) (hk : k < n) (hin : servedAt base k < vs.length) :
    Calls Try.prog 31 #[.pointer (some ⟨L, 0, none⟩), .int .i64 (k : Int), .int .u16 (t : Int)] w fun e w' => e = .returned (.bool (decide (tick (nth vs (servedAt base k)) = t))) ∧ Cels w' B V vs (up c) ∧ But [B, V] w w' := by
  have c0 := h.cell0
  have hcall := cells_there k w h hk
  have hadd := cell_read (servedAt base k : Int) w hC (by omega) (by have := hC.len; omega)
  rw [cellAt_nat hin, countUp, inRow_of hin, if_pos rfl] at hadd
  have hw := tick_wrap (nth vs (servedAt base k))
  obtain ⟨x, hx⟩ : ∃ x, x = tick (nth vs (servedAt base k)) := ⟨_, rfl⟩
  rw [← hx] at hw
  rw [← hx]
  have hb := beq_nat x t
  clear h hC hin hx
  go_enter Try.func31, Try.ntmps31
  go_wp2_with fail
  refine hcall.mono ?_
  rintro e w' ⟨rfl, rfl⟩
  go_wp2_with fail
  refine hadd.mono ?_
  rintro e w2 ⟨rfl, hC2, hB2⟩
  go_wp2_with fail
  go_ret
  exact ⟨by rw [← hb.out]; rfl, hC2, hB2⟩
theorem wait_there {L P Q B V base n c : Nat} {vs : List Nat} (k : Nat) (w : World) (h : Lks w L P Q B base n) (hC : Cels w B V vs c) (hk : k < n) (hin : servedAt base k < vs.length) :
    Calls Try.prog 43 #[.pointer (some ⟨L, 0, none⟩), .int .i64 (k : Int)] w fun e w' => e = .returned (.int .i64 (tick (minus (nth vs (nextAt base k)) (nth vs (servedAt base k))) : Int)) ∧ ∃ m, w' = w.drewN m := by
  have c0 := h.cell0
  have hcall := cells_there k w h hk
  have hw := wait_wrap (nth_lt hC.all (nextAt base k)) (nth_lt hC.all (servedAt base k))
  have p1 := fun m => peek_there (nextAt base k) (w.drewN m) (hC.drewN m) (by unfold nextAt; unfold servedAt at hin; omega)
  have p2 := fun m => peek_there (servedAt base k) (w.drewN m) (hC.drewN m) hin
  clear h hC hin
  go_enter Try.func43, Try.ntmps43
  go_wp2_with fail
  refine hcall.mono ?_
  rintro e w' ⟨rfl, rfl⟩
  go_wp2_with fail
  go_quiet (first | (go_at_call 51; with_reducible exact Calls.quiet_of_same (p1 _)) | (go_at_call 51; with_reducible exact Calls.quiet_of_same (p2 _)))
  go_wp2_with fail
  go_ret
  exact ⟨by rw [← hw.out]; rfl, _, rfl⟩
theorem free_there {L P Q B V base n c : Nat} {vs : List Nat} (k : Nat) (w : World) (h : Lks w L P Q B base n) (hC : Cels w B V vs c) (hk : k < n) (hin : servedAt base k < vs.length) :
    Calls Try.prog 24 #[.pointer (some ⟨L, 0, none⟩), .int .i64 (k : Int)] w fun e w' => e = .returned (.bool (decide (tick (minus (nth vs (nextAt base k)) (nth vs (servedAt base k))) = 0))) ∧ ∃ m, w' = w.drewN m := by
  have hcall := cells_there k w h hk
  have hwait := wait_there k w h hC hk hin
  obtain ⟨x, hx⟩ : ∃ x, x = tick (minus (nth vs (nextAt base k)) (nth vs (servedAt base k))) := ⟨_, rfl⟩
  rw [← hx] at hwait
  rw [← hx]
  have hb := beq_nat x 0
  clear h hC hin hx
  go_enter Try.func24, Try.ntmps24
  go_wp2_with fail
  refine hcall.mono ?_
  rintro e w' ⟨rfl, rfl⟩
  go_wp2_with fail
  refine hwait.mono ?_
  rintro e w2 ⟨rfl, m, rfl⟩
  go_wp2_with fail
  go_ret
  exact ⟨by rw [← hb.out]; rfl, _, rfl⟩
end Go.Proofs.Ytbjfongjdlankaa
