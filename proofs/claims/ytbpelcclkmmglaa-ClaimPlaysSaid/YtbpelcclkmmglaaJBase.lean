/-
  The walks of claim.odd, New$1, cell, Len, Turn, IsOpen, Open, Claim.
-/
import Derived.Test.YtbpelcclkmmglaaJMath
namespace Go.Proofs.Ytbpelcclkmmglaa
open Go.RowKit

theorem beq_nat (x t : Nat) : Hid (((x : Int) == (t : Int)) = decide (x = t)) := Lib.hid (by
  by_cases h : x = t
  · subst h; simp
  · have : ¬ (x : Int) = (t : Int) := by omega
    simp [h, this])
theorem plus_one (x : Nat) : plus x 1 = up x := rfl
theorem inRow_of {n k : Nat} (h : k < n) : inRow n (k : Int) = true := decide_eq_true (by omega)

theorem odd_any (x : Nat) (w : World) : Calls Try.prog 26 #[.int .u64 (x : Int)] w fun e w' => e = .returned (.bool (isOdd x)) ∧ w' = w := by
  have hR : Hid (isOdd x = (((x : Int) % 2) == 1)) := Lib.hid (by
    have := (beq_nat (x % 2) 1).out
    unfold isOdd; rw [← this]; simp)
  go_enter Try.func26, Try.ntmps26
  go_wp2_with fail
  go_ret
  exact ⟨by rw [hR.out]; rfl, rfl⟩

theorem at_there {P Q base n : Nat} (k : Nat) (w : World) (hN : Boxed w P 3 (.int .i64 (n : Int))) (hB : Boxed w Q 3 (.int .i64 (base : Int))) (hr : base + n ≤ 4096) (hk : k < n) :
    Calls Try.prog 23 #[.int .i64 (k : Int), .pointer (some ⟨P, 0, none⟩), .pointer (some ⟨Q, 0, none⟩)] w fun e w' => e = .returned (.tuple #[.int .i64 ((base + k : Nat) : Int), .bool true]) ∧ w' = w := by
  have c1 := hN.cell
  have c2 := hB.cell
  have t1 : decide ((k : Int) < 0) = false := by simp
  have t2 : decide ((n : Int) ≤ (k : Int)) = false := by simp; omega
  have t3 : ¬ (n : Int) ≤ (k : Int) := by omega
  clear hN hB
  go_enter Try.func23, Try.ntmps23
  go_wp2_with fail
  go_ret2
  exact ⟨rfl, rfl⟩
theorem at_out {P Q n : Nat} (k : Int) (w : World) (hN : Boxed w P 3 (.int .i64 (n : Int))) (hk : inRow n k = false) :
    Calls Try.prog 23 #[.int .i64 k, .pointer (some ⟨P, 0, none⟩), .pointer (some ⟨Q, 0, none⟩)] w fun e w' => e = .returned (.tuple #[.int .i64 0, .bool false]) ∧ w' = w := by
  have c1 := hN.cell
  have hk' := of_decide_eq_false hk
  clear hN hk
  by_cases h0 : k < 0
  · have t1 : decide (k < 0) = true := decide_eq_true h0
    go_enter Try.func23, Try.ntmps23
    go_wp2_with fail
    go_ret2
    exact ⟨rfl, rfl⟩
  · have t1 : decide (k < 0) = false := decide_eq_false h0
    have t3 : (n : Int) ≤ k := by omega
    have t2 : decide ((n : Int) ≤ k) = true := decide_eq_true t3
    go_enter Try.func23, Try.ntmps23
    go_wp2_with fail
    go_ret2
    exact ⟨rfl, rfl⟩

theorem kcell_nil (k : Int) (w : World) :
    Calls Try.prog 24 #[.pointer none, .int .i64 k] w fun e w' => e = .returned (.tuple #[.int .i64 0, .bool false]) ∧ w' = w := by
  go_enter Try.func24, Try.ntmps24
  go_wp2_with fail
  go_ret2
  exact ⟨rfl, rfl⟩
theorem kcell_there {L P Q B base n : Nat} (k : Nat) (w : World) (h : Clm w L P Q B base n) (hk : k < n) :
    Calls Try.prog 24 #[.pointer (some ⟨L, 0, none⟩), .int .i64 (k : Int)] w fun e w' => e = .returned (.tuple #[.int .i64 ((base + k : Nat) : Int), .bool true]) ∧ w' = w := by
  have c2 := h.cell2
  have hcall := at_there k w h.boxN h.boxB h.room hk
  clear h
  go_enter Try.func24, Try.ntmps24
  go_wp2_with fail
  refine hcall.mono ?_
  rintro e w' ⟨rfl, rfl⟩
  go_wp2_with fail
  go_ret2
  exact ⟨rfl, rfl⟩
theorem kcell_out {L P Q B base n : Nat} (k : Int) (w : World) (h : Clm w L P Q B base n) (hk : inRow n k = false) :
    Calls Try.prog 24 #[.pointer (some ⟨L, 0, none⟩), .int .i64 k] w fun e w' => e = .returned (.tuple #[.int .i64 0, .bool false]) ∧ w' = w := by
  have c2 := h.cell2
  have hcall := at_out (Q := Q) k w h.boxN hk
  clear h hk
  go_enter Try.func24, Try.ntmps24
  go_wp2_with fail
  refine hcall.mono ?_
  rintro e w' ⟨rfl, rfl⟩
  go_wp2_with fail
  go_ret2
  exact ⟨rfl, rfl⟩

theorem klen_any {L P Q B base n : Nat} (w : World) (h : Clm w L P Q B base n) :
    Calls Try.prog 21 #[.pointer (some ⟨L, 0, none⟩)] w fun e w' => e = .returned (.int .i64 (n : Int)) ∧ w' = w := by
  have c1 := h.cell1
  clear h
  go_enter Try.func21, Try.ntmps21
  go_wp2_with fail
  go_ret
  exact ⟨rfl, rfl⟩
theorem klen_nil (w : World) :
    Calls Try.prog 21 #[.pointer none] w fun e w' => e = .returned (.int .i64 0) ∧ w' = w := by
  go_enter Try.func21, Try.ntmps21
  go_wp2_with fail
  go_ret
  exact ⟨rfl, rfl⟩

/-- A claim that is not there has no cell. -/
def NoCell (p : Option Addr) (k : Int) (w : World) : Prop := Calls Try.prog 24 #[.pointer p, .int .i64 k] w fun e w' => e = .returned (.tuple #[.int .i64 0, .bool false]) ∧ w' = w
theorem turn_none {p : Option Addr} (k : Int) (w : World) (hcall : NoCell p k w) :
    Calls Try.prog 14 #[.pointer p, .int .i64 k] w fun e w' => e = .returned (.int .u64 0) ∧ w' = w := by
  go_enter Try.func14, Try.ntmps14
  go_wp2_with fail
  refine Calls.mono hcall ?_
  rintro e w' ⟨rfl, rfl⟩
  go_wp2_with fail
  go_ret
  exact ⟨rfl, rfl⟩
theorem open_none {p : Option Addr} (k : Int) (w : World) (hcall : NoCell p k w) :
    Calls Try.prog 10 #[.pointer p, .int .i64 k] w fun e w' => e = .returned (.int .u64 0) ∧ w' = w := by
  go_enter Try.func10, Try.ntmps10
  go_wp2_with fail
  refine Calls.mono hcall ?_
  rintro e w' ⟨rfl, rfl⟩
  go_wp2_with fail
  go_ret
  exact ⟨rfl, rfl⟩
theorem claim_none {p : Option Addr} (k : Int) (t : Nat) (w : World) (hcall : NoCell p k w) :
    Calls Try.prog 12 #[.pointer p, .int .i64 k, .int .u64 (t : Int)] w fun e w' => e = .returned (.bool false) ∧ w' = w := by
  go_enter Try.func12, Try.ntmps12
  go_wp2_with fail
  refine Calls.mono hcall ?_
  rintro e w' ⟨rfl, rfl⟩
  go_wp2_with fail
  go_ret
  exact ⟨rfl, rfl⟩

theorem turn_there {L P Q B V base n c : Nat} {vs : List Nat} (k : Nat) (w : World) (h : Clm w L P Q B base n) (hC : Cels w B V vs c) (hk : k < n) (hl : base + n ≤ vs.length) :
    Calls Try.prog 14 #[.pointer (some ⟨L, 0, none⟩), .int .i64 (k : Int)] w fun e w' => e = .returned (.int .u64 (nth vs (base + k) : Int)) ∧ w' = w := by
  have c0 := h.cell0
  have hcall := kcell_there k w h hk
  have hp := peek_there (base + k) w hC (by omega)
  clear h hC
  go_enter Try.func14, Try.ntmps14
  go_wp2_with fail
  refine hcall.mono ?_
  rintro e w' ⟨rfl, rfl⟩
  go_wp2_with fail
  refine hp.mono ?_
  rintro e w' ⟨rfl, rfl⟩
  go_wp2_with fail
  go_ret
  exact ⟨rfl, rfl⟩
theorem turn_any {L P Q B V base n c : Nat} {vs : List Nat} (k : Int) (w : World) (h : Clm w L P Q B base n) (hC : Cels w B V vs c) (hl : base + n ≤ vs.length) :
    Calls Try.prog 14 #[.pointer (some ⟨L, 0, none⟩), .int .i64 k] w fun e w' => e = .returned (.int .u64 (turnE base n vs k : Int)) ∧ w' = w := by
  cases hin : inRow n k with
  | true =>
    obtain ⟨j, rfl, hj⟩ := inRow_nat hin
    rw [turnE_nat hj]
    exact turn_there j w h hC hj hl
  | false => rw [turnE_out hin]; exact turn_none k w (kcell_out k w h hin)
theorem isopen_none {p : Option Addr} (k : Int) (w : World) (hcall : NoCell p k w) :
    Calls Try.prog 19 #[.pointer p, .int .i64 k] w fun e w' => e = .returned (.bool false) ∧ w' = w := by
  have ht := turn_none k w hcall
  have ho := odd_any 0 w
  rw [show isOdd 0 = false from rfl] at ho
  go_enter Try.func19, Try.ntmps19
  go_wp2_with fail
  refine ht.mono ?_
  rintro e w' ⟨rfl, rfl⟩
  go_wp2_with fail
  refine ho.mono ?_
  rintro e w' ⟨rfl, rfl⟩
  go_wp2_with fail
  go_ret
  exact ⟨rfl, rfl⟩
theorem isopen_any {L P Q B V base n c : Nat} {vs : List Nat} (k : Int) (w : World) (h : Clm w L P Q B base n) (hC : Cels w B V vs c) (hl : base + n ≤ vs.length) :
    Calls Try.prog 19 #[.pointer (some ⟨L, 0, none⟩), .int .i64 k] w fun e w' => e = .returned (.bool (openIs base n vs k)) ∧ w' = w := by
  have ht := turn_any k w h hC hl
  have ho := odd_any (turnE base n vs k) w
  unfold openIs
  clear h hC
  go_enter Try.func19, Try.ntmps19
  go_wp2_with fail
  refine ht.mono ?_
  rintro e w' ⟨rfl, rfl⟩
  go_wp2_with fail
  refine ho.mono ?_
  rintro e w' ⟨rfl, rfl⟩
  go_wp2_with fail
  go_ret
  exact ⟨rfl, rfl⟩

theorem open_there {L P Q B V base n c : Nat} {vs : List Nat} (k : Nat) (w : World) (h : Clm w L P Q B base n) (hC : Cels w B V vs c) (hk : k < n) (hl : base + n ≤ vs.length) (ho : isOdd (nth vs (base + k)) = true) :
    Calls Try.prog 10 #[.pointer (some ⟨L, 0, none⟩), .int .i64 (k : Int)] w fun e w' => e = .returned (.int .u64 (nth vs (base + k) : Int)) ∧ w' = w := by
  have c0 := h.cell0
  have hcall := kcell_there k w h hk
  have hp := peek_there (base + k) w hC (by omega)
  have hod := odd_any (nth vs (base + k)) w
  rw [ho] at hod
  clear h hC ho
  go_enter Try.func10, Try.ntmps10
  go_wp2_with fail
  refine hcall.mono ?_
  rintro e w' ⟨rfl, rfl⟩
  go_wp2_with fail
  refine hp.mono ?_
  rintro e w' ⟨rfl, rfl⟩
  go_wp2_with fail
  refine hod.mono ?_
  rintro e w' ⟨rfl, rfl⟩
  go_wp2_with fail
  go_ret
  exact ⟨rfl, rfl⟩
theorem open_shut {L P Q B V base n c : Nat} {vs : List Nat} (k : Nat) (w : World) (h : Clm w L P Q B base n) (hC : Cels w B V vs c) (hk : k < n) (hl : base + n ≤ vs.length) (ho : isOdd (nth vs (base + k)) = false) :
    Calls Try.prog 10 #[.pointer (some ⟨L, 0, none⟩), .int .i64 (k : Int)] w fun e w' => e = .returned (.int .u64 (up (nth vs (base + k)) : Int)) ∧ Cels w' B V (vs.set (base + k) (up (nth vs (base + k)))) (up c) ∧ But [B, V] w w' := by
  have c0 := h.cell0
  have hcall := kcell_there k w h hk
  have hi : base + k < vs.length := by omega
  have hp := peek_there (base + k) w hC hi
  have hod := odd_any (nth vs (base + k)) w
  have hadd := cell_add ((base + k : Nat) : Int) 1 w hC (by omega) (by have := hC.len; omega)
  rw [cellAt_nat hi, addAt, putAt, countUp, inRow_of hi, if_pos rfl, if_pos rfl, cellAt_nat hi, Int.toNat_natCast, plus_one] at hadd
  rw [ho] at hod
  have hw := u64_succ (nth vs (base + k))
  clear h hC ho hi
  go_enter Try.func10, Try.ntmps10
  go_wp2_with fail
  refine hcall.mono ?_
  rintro e w' ⟨rfl, rfl⟩
  go_wp2_with fail
  refine hp.mono ?_
  rintro e w' ⟨rfl, rfl⟩
  go_wp2_with fail
  refine hod.mono ?_
  rintro e w' ⟨rfl, rfl⟩
  go_wp2_with fail
  refine hadd.mono ?_
  rintro e w2 ⟨rfl, hC2, hB2⟩
  go_wp2_with fail
  go_ret
  exact ⟨rfl, hC2, hB2⟩
theorem open_any {L P Q B V base n c : Nat} {vs : List Nat} (k : Int) (w : World) (h : Clm w L P Q B base n) (hC : Cels w B V vs c) (hl : base + n ≤ vs.length) :
    Calls Try.prog 10 #[.pointer (some ⟨L, 0, none⟩), .int .i64 k] w fun e w' => e = .returned (.int .u64 (openE base n vs k : Int)) ∧ Cels w' B V (openV base n vs k) (openC base n vs k c) ∧ But [B, V] w w' := by
  cases hin : inRow n k with
  | true =>
    obtain ⟨j, rfl, hj⟩ := inRow_nat hin
    cases ho : isOdd (nth vs (base + j)) with
    | true =>
      have : opens base n vs (j : Int) = false := by unfold opens openIs; rw [turnE_nat hj, ho]; simp
      rw [openE, openV, openC, this, turnE_nat hj]
      refine (open_there j w h hC hj hl ho).mono ?_
      rintro e w' ⟨rfl, rfl⟩
      exact ⟨rfl, hC, .refl _ _⟩
    | false =>
      have : opens base n vs (j : Int) = true := by unfold opens openIs; rw [turnE_nat hj, ho, hin]; rfl
      rw [openE, openV, openC, this, if_pos rfl, if_pos rfl, if_pos rfl, turnE_nat hj, Int.toNat_natCast]
      exact open_shut j w h hC hj hl ho
  | false =>
    have : opens base n vs k = false := by unfold opens; rw [hin]; rfl
    rw [openE, openV, openC, this, turnE_out hin]
    refine (open_none k w (kcell_out k w h hin)).mono ?_
    rintro e w' ⟨rfl, rfl⟩
    exact ⟨rfl, hC, .refl _ _⟩

theorem claim_even {L P Q B base n : Nat} (k t : Nat) (w : World) (h : Clm w L P Q B base n) (hk : k < n) (ht : isOdd t = false) :
    Calls Try.prog 12 #[.pointer (some ⟨L, 0, none⟩), .int .i64 (k : Int), .int .u64 (t : Int)] w fun e w' => e = .returned (.bool false) ∧ w' = w := by
  have hcall := kcell_there k w h hk
  have hod := odd_any t w
  rw [ht] at hod
  clear h ht
  go_enter Try.func12, Try.ntmps12
  go_wp2_with fail
  refine hcall.mono ?_
  rintro e w' ⟨rfl, rfl⟩
  go_wp2_with fail
  refine hod.mono ?_
  rintro e w' ⟨rfl, rfl⟩
  go_wp2_with fail
  go_ret
  exact ⟨rfl, rfl⟩
theorem claim_odd {L P Q B V base n c : Nat} {vs : List Nat} (k t : Nat) (w : World) (h : Clm w L P Q B base n) (hC : Cels w B V vs c) (hk : k < n) (hl : base + n ≤ vs.length) (ht : isOdd t = true) :
    Calls Try.prog 12 #[.pointer (some ⟨L, 0, none⟩), .int .i64 (k : Int), .int .u64 (t : Int)] w fun e w' => e = .returned (.bool (decide (nth vs (base + k) = t))) ∧ Cels w' B V (casV vs (base + k) t (up t)) (up c) ∧ But [B, V] w w' := by
  have c0 := h.cell0
  have hcall := kcell_there k w h hk
  have hi : base + k < vs.length := by omega
  have hod := odd_any t w
  have hcas := cell_cas ((base + k : Nat) : Int) t (up t) w hC (by omega) (by have := hC.len; omega) (up_lt t)
  rw [casIs, casAt, countUp, inRow_of hi, if_pos rfl, if_pos rfl, Bool.true_and, Int.toNat_natCast] at hcas
  rw [ht] at hod
  have hw := u64_succ t
  clear h hC ht hi
  go_enter Try.func12, Try.ntmps12
  go_wp2_with fail
  refine hcall.mono ?_
  rintro e w' ⟨rfl, rfl⟩
  go_wp2_with fail
  refine hod.mono ?_
  rintro e w' ⟨rfl, rfl⟩
  go_wp2_with fail
  refine hcas.mono ?_
  rintro e w2 ⟨rfl, hC2, hB2⟩
  go_wp2_with fail
  go_ret
  exact ⟨rfl, hC2, hB2⟩
theorem claim_any {L P Q B V base n c : Nat} {vs : List Nat} (k : Int) (t : Nat) (w : World) (h : Clm w L P Q B base n) (hC : Cels w B V vs c) (hl : base + n ≤ vs.length) :
    Calls Try.prog 12 #[.pointer (some ⟨L, 0, none⟩), .int .i64 k, .int .u64 (t : Int)] w fun e w' => e = .returned (.bool (claimE base n vs k t)) ∧ Cels w' B V (claimV base n vs k t) (claimC n k t c) ∧ But [B, V] w w' := by
  cases hin : inRow n k with
  | true =>
    obtain ⟨j, rfl, hj⟩ := inRow_nat hin
    cases ht : isOdd t with
    | true =>
      have h1 : tries n (j : Int) t = true := by unfold tries; rw [hin, ht]; rfl
      have h2 : claimE base n vs (j : Int) t = decide (nth vs (base + j) = t) := by unfold claimE; rw [h1, turnE_nat hj]; rfl
      have h3 : claimV base n vs (j : Int) t = casV vs (base + j) t (up t) := by
        unfold claimV casV; rw [h2, Int.toNat_natCast]
        by_cases e : nth vs (base + j) = t
        · simp [e]
        · simp [e]
      rw [h2, h3, claimC, h1, if_pos rfl]
      exact claim_odd j t w h hC hj hl ht
    | false =>
      have h1 : tries n (j : Int) t = false := by unfold tries; rw [hin, ht]; rfl
      have h2 : claimE base n vs (j : Int) t = false := by unfold claimE; rw [h1]; rfl
      rw [claimV, h2, claimC, h1]
      refine (claim_even j t w h hj ht).mono ?_
      rintro e w' ⟨rfl, rfl⟩
      exact ⟨rfl, hC, .refl _ _⟩
  | false =>
    have h1 : tries n k t = false := by unfold tries; rw [hin]; rfl
    have h2 : claimE base n vs k t = false := by unfold claimE; rw [h1]; rfl
    rw [claimV, h2, claimC, h1]
    refine (claim_none k t w (kcell_out k w h hin)).mono ?_
    rintro e w' ⟨rfl, rfl⟩
    exact ⟨rfl, hC, .refl _ _⟩
end Go.Proofs.Ytbpelcclkmmglaa
