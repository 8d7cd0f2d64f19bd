/-
  The reference's locks in memory; the walks of tollbarref05's Has, Draw, Mine, Give, Waiting.
-/
import Derived.Test.YtbjfongjdlankaaTAny
import Derived.Test.YtbjfongjdlankaaCRefDo
namespace Go.Proofs.Ytbjfongjdlankaa
open Go.RowKit

/-- Block R is n locks of the reference on the cells C from base on. -/
structure RefL (W : World) (R C base n : Nat) : Prop where
  head : W.heap[R]? = some (.cells #[.pointer (some ⟨C, 0, none⟩), .int .i64 (base : Int), .int .i64 (n : Int)] 38 (0, 0))
  most : n ≤ 300
  room : base + 2 * n ≤ 4096
theorem RefL.ltR {W : World} {R C base n : Nat} (h : RefL W R C base n) : R < W.heap.size := (Array.getElem?_eq_some_iff.1 h.head).1
theorem RefL.cell0 {W : World} {R C base n : Nat} (h : RefL W R C base n) : W.cell? ⟨R, 0, none⟩ = some (.pointer (some ⟨C, 0, none⟩)) := by simp [World.cell?, h.head]
theorem RefL.cell1 {W : World} {R C base n : Nat} (h : RefL W R C base n) : W.cell? ⟨R, 1, none⟩ = some (.int .i64 (base : Int)) := by simp [World.cell?, h.head]
theorem RefL.cell2 {W : World} {R C base n : Nat} (h : RefL W R C base n) : W.cell? ⟨R, 2, none⟩ = some (.int .i64 (n : Int)) := by simp [World.cell?, h.head]
theorem RefL.but {W W' : World} {R C base n : Nat} (h : RefL W R C base n) {S : List Nat} (hb : But S W W') (h1 : R ∉ S) : RefL W' R C base n := ⟨(hb.block R h.ltR h1).trans h.head, h.most, h.room⟩
theorem RefL.drewN {W : World} {R C base n : Nat} (h : RefL W R C base n) (k : Nat) : RefL (W.drewN k) R C base n := ⟨h.head, h.most, h.room⟩

theorem lhas_any {R C base n : Nat} (k : Int) (w : World) (h : RefL w R C base n) :
    Calls Try.prog 38 #[.pointer (some ⟨R, 0, none⟩), .int .i64 k] w fun e w' => e = .returned (.bool (inRow n k)) ∧ w' = w := by
  have hc := h.cell2
  clear h
  by_cases h0 : k < 0
  · have t1 : decide (0 ≤ k) = false := by simp; omega
    rw [show inRow n k = false from decide_eq_false (by omega)]
    go_enter Try.func38, Try.ntmps38
    go_wp2_with fail
    go_ret
    exact ⟨rfl, rfl⟩
  · have t1 : 0 ≤ k := by omega
    have t2 : decide (0 ≤ k) = true := decide_eq_true t1
    have hR : Hid (inRow n k = decide (k < (n : Int))) := by unfold inRow; show _ = _; simp [t1]
    go_enter Try.func38, Try.ntmps38
    go_wp2_with fail
    go_ret
    exact ⟨by rw [hR.out]; rfl, rfl⟩

theorem RefNow.undrew {w w' : World} {C g n : Nat} {vs : List Nat} (h : RefNow w.drew C g vs n w') : RefNow w C g vs n w' := by
  obtain ⟨g', h1, h2, h3⟩ := h
  exact ⟨g', h1, h2, ⟨h3.os, h3.tape, h3.output, h3.size, h3.block⟩⟩

theorem tick_rem (x : Nat) : IntKind.u16.wrap ((x : Int) % 65536) = (tick x : Int) := by
  rw [IntKind.wrap_u16]; unfold tick; omega

theorem rdraw_there {R C g base n c : Nat} {vs : List Nat} (k : Nat) (w : World) (h : RefL w R C base n) (hC : RefC w C g vs c) (hk : k < n) (hin : nextAt base k < vs.length) :
    Calls Try.prog 33 #[.pointer (some ⟨R, 0, none⟩), .int .i64 (k : Int)] w fun e w' => e = .returned (.int .u16 (tick (nth vs (nextAt base k)) : Int)) ∧ RefNow w C g (vs.set (nextAt base k) (up (nth vs (nextAt base k)))) (up c) w' := by
  have hhas := lhas_any (k : Int) w h
  rw [inRow_of hk] at hhas
  have c0 := h.cell0
  have c1 := h.cell1
  have hadd := radd_any (nextAt base k : Int) 1 w.drew hC.drew (by omega) (by have := hC.len; omega)
  rw [cellAt_nat hin, addAt, putAt, countUp, inRow_of hin, if_pos rfl, if_pos rfl, cellAt_nat hin, Int.toNat_natCast, plus_one] at hadd
  have hw := tick_rem (nth vs (nextAt base k))
  have hn := h.most
  have hr := h.room
  have e1 : IntKind.i64.wrap (2 * (k : Int)) = 2 * (k : Int) := IntWalk.i64_in _ (by omega)
  have e2 : IntKind.i64.wrap ((base : Int) + 2 * (k : Int)) = (nextAt base k : Int) := by rw [IntWalk.i64_in _ (by omega)]; unfold nextAt; omega
  clear h hC hin
  go_enter Try.func33, Try.ntmps33
  go_wp2_with fail
  refine hhas.mono ?_
  rintro e w' ⟨rfl, rfl⟩
  go_wp2_with fail
  refine wp_region_still_tail 11 (by kernel_rfl) (by kernel_rfl) ?_
  simp only [List.take_succ_cons, List.take_zero, List.drop_succ_cons, List.drop_zero]
  change wpStill _ _ w'.drew (fun a' => wpList _ _ _ _ a' w'.drew) _ _
  repeat still_step
  refine wpStill_nil ?_
  clear e1 e2
  go_wp2_with fail
  refine hadd.mono ?_
  rintro e w2 ⟨rfl, hR2⟩
  go_wp2_with fail
  go_ret
  exact ⟨rfl, hR2.undrew⟩

theorem rgive_there {R C g base n c : Nat} {vs : List Nat} (k : Nat) (w : World) (h : RefL w R C base n) (hC : RefC w C g vs c) (hk : k < n) (hin : servedAt base k < vs.length) :
    Calls Try.prog 41 #[.pointer (some ⟨R, 0, none⟩), .int .i64 (k : Int)] w fun e w' => e = .returned (.tuple #[]) ∧ RefNow w C g (vs.set (servedAt base k) (up (nth vs (servedAt base k)))) (up c) w' := by
  have hhas := lhas_any (k : Int) w h
  rw [inRow_of hk] at hhas
  have c0 := h.cell0
  have c1 := h.cell1
  have hadd := radd_any (servedAt base k : Int) 1 w.drew hC.drew (by omega) (by have := hC.len; omega)
  rw [cellAt_nat hin, addAt, putAt, countUp, inRow_of hin, if_pos rfl, if_pos rfl, cellAt_nat hin, Int.toNat_natCast, plus_one] at hadd
  have hn := h.most
  have hr := h.room
  have e1 : IntKind.i64.wrap (2 * (k : Int)) = 2 * (k : Int) := IntWalk.i64_in _ (by omega)
  have e2 : IntKind.i64.wrap ((base : Int) + 2 * (k : Int)) = (nextAt base k : Int) := by rw [IntWalk.i64_in _ (by omega)]; unfold nextAt; omega
  have e3 : IntKind.i64.wrap ((nextAt base k : Int) + 1) = (servedAt base k : Int) := by unfold nextAt servedAt; rw [IntWalk.i64_in _ (by omega)]; omega
  clear h hC hin
  go_enter Try.func41, Try.ntmps41
  go_wp2_with fail
  refine hhas.mono ?_
  rintro e w' ⟨rfl, rfl⟩
  go_wp2_with fail
  refine wp_region_still_tail 12 (by kernel_rfl) (by kernel_rfl) ?_
  simp only [List.take_succ_cons, List.take_zero, List.drop_succ_cons, List.drop_zero]
  change wpStill _ _ w'.drew (fun a' => wpList _ _ _ _ a' w'.drew) _ _
  repeat still_step
  refine wpStill_nil ?_
  clear e1 e2 e3
  go_wp2_with fail
  refine hadd.mono ?_
  rintro e w2 ⟨rfl, hR2⟩
  go_wp2_with fail
  go_end0
  exact ⟨rfl, hR2.undrew⟩

theorem rmine_there {R C g base n c : Nat} {vs : List Nat} (k t : Nat) (w : World) (h : RefL w R C base n) (hC : RefC w C g vs c) (hk : k < n) (hin : servedAt base k < vs.length) :
    Calls Try.prog 34 #[.pointer (some ⟨R, 0, none⟩), .int .i64 (k : Int), .int .u16 (t : Int)] w fun e w' => e = .returned (.bool (decide (tick (nth vs (servedAt base k)) = t))) ∧ RefNow w C g vs (up c) w' := by
  have hhas := lhas_any (k : Int) w h
  rw [inRow_of hk] at hhas
  have c0 := h.cell0
  have c1 := h.cell1
  have hadd := rread_any (servedAt base k : Int) w.drew hC.drew (by omega) (by have := hC.len; omega)
  rw [cellAt_nat hin, countUp, inRow_of hin, if_pos rfl] at hadd
  have hn := h.most
  have hr := h.room
  have hw := tick_rem (nth vs (servedAt base k))
  obtain ⟨x, hx⟩ : ∃ x, x = tick (nth vs (servedAt base k)) := ⟨_, rfl⟩
  rw [← hx] at hw
  rw [← hx]
  have hb := beq_nat x t
  have e1 : IntKind.i64.wrap (2 * (k : Int)) = 2 * (k : Int) := IntWalk.i64_in _ (by omega)
  have e2 : IntKind.i64.wrap ((base : Int) + 2 * (k : Int)) = (nextAt base k : Int) := by rw [IntWalk.i64_in _ (by omega)]; unfold nextAt; omega
  have e3 : IntKind.i64.wrap ((nextAt base k : Int) + 1) = (servedAt base k : Int) := by unfold nextAt servedAt; rw [IntWalk.i64_in _ (by omega)]; omega
  clear h hC hin hx
  go_enter Try.func34, Try.ntmps34
  go_wp2_with fail
  refine hhas.mono ?_
  rintro e w' ⟨rfl, rfl⟩
  go_wp2_with fail
  refine wp_region_still_tail 12 (by kernel_rfl) (by kernel_rfl) ?_
  simp only [List.take_succ_cons, List.take_zero, List.drop_succ_cons, List.drop_zero]
  change wpStill _ _ w'.drew (fun a' => wpList _ _ _ _ a' w'.drew) _ _
  repeat still_step
  refine wpStill_nil ?_
  clear e1 e2 e3
  go_wp2_with fail
  refine hadd.mono ?_
  rintro e w2 ⟨rfl, hR2, hB2⟩
  go_wp2_with fail
  go_ret
  exact ⟨by rw [← hb.out]; rfl, RefNow.undrew ⟨g, hR2, .inl rfl, hB2⟩⟩

/-! ### Of whatever lock -/
theorem rdraw_any {R C g base n c : Nat} {vs : List Nat} (k : Int) (w : World) (h : RefL w R C base n) (hC : RefC w C g vs c) (hl : base + 2 * n ≤ vs.length) :
    Calls Try.prog 33 #[.pointer (some ⟨R, 0, none⟩), .int .i64 k] w fun e w' => e = .returned (.int .u16 (drawE base n vs k : Int)) ∧ RefNow w C g (drawV base n vs k) (countUp n c k) w' := by
  cases hin : inRow n k with
  | true =>
    obtain ⟨j, rfl, hj⟩ := inRow_nat hin
    rw [drawE, drawV, countUp, if_pos hin, if_pos hin, if_pos hin, Int.toNat_natCast]
    exact rdraw_there j w h hC hj (next_in hj hl)
  | false =>
    have hhas := lhas_any k w h
    rw [hin] at hhas
    rw [drawE, drawV, countUp, hin]
    clear h
    go_enter Try.func33, Try.ntmps33
    go_wp2_with fail
    refine hhas.mono ?_
    rintro e w' ⟨rfl, rfl⟩
    go_wp2_with fail
    go_ret
    exact ⟨rfl, g, hC, .inl rfl, .refl _ _⟩
theorem rgive_any {R C g base n c : Nat} {vs : List Nat} (k : Int) (w : World) (h : RefL w R C base n) (hC : RefC w C g vs c) (hl : base + 2 * n ≤ vs.length) :
    Calls Try.prog 41 #[.pointer (some ⟨R, 0, none⟩), .int .i64 k] w fun e w' => e = .returned (.tuple #[]) ∧ RefNow w C g (giveV base n vs k) (countUp n c k) w' := by
  cases hin : inRow n k with
  | true =>
    obtain ⟨j, rfl, hj⟩ := inRow_nat hin
    rw [giveV, countUp, if_pos hin, if_pos hin, Int.toNat_natCast]
    exact rgive_there j w h hC hj (served_in hj hl)
  | false =>
    have hhas := lhas_any k w h
    rw [hin] at hhas
    rw [giveV, countUp, hin]
    clear h
    go_enter Try.func41, Try.ntmps41
    go_wp2_with fail
    refine hhas.mono ?_
    rintro e w' ⟨rfl, rfl⟩
    go_wp2_with fail
    go_end0
    exact ⟨rfl, g, hC, .inl rfl, .refl _ _⟩
theorem rmine_any {R C g base n c : Nat} {vs : List Nat} (k : Int) (t : Nat) (w : World) (h : RefL w R C base n) (hC : RefC w C g vs c) (hl : base + 2 * n ≤ vs.length) :
    Calls Try.prog 34 #[.pointer (some ⟨R, 0, none⟩), .int .i64 k, .int .u16 (t : Int)] w fun e w' => e = .returned (.bool (mineE base n vs k t)) ∧ RefNow w C g vs (countUp n c k) w' := by
  cases hin : inRow n k with
  | true =>
    obtain ⟨j, rfl, hj⟩ := inRow_nat hin
    rw [mineE, countUp, if_pos hin, hin, Bool.true_and, Int.toNat_natCast]
    exact rmine_there j t w h hC hj (served_in hj hl)
  | false =>
    have hhas := lhas_any k w h
    rw [hin] at hhas
    rw [mineE, countUp, hin]
    clear h
    go_enter Try.func34, Try.ntmps34
    go_wp2_with fail
    refine hhas.mono ?_
    rintro e w' ⟨rfl, rfl⟩
    go_wp2_with fail
    go_ret
    exact ⟨rfl, g, hC, .inl rfl, .refl _ _⟩
end Go.Proofs.Ytbjfongjdlankaa
