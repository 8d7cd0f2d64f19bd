/-
  The reference's claims in memory; the walks of tollbarref20's Has, Turn, Open, Claim.
-/
import Derived.Test.YtbpelcclkmmglaaJNew
import Derived.Test.YtbpelcclkmmglaaJRefCas
namespace Go.Proofs.Ytbpelcclkmmglaa
open Go.RowKit

/-- Block R is n claims of the reference on the cells C from base on. -/
structure RefK (W : World) (R C base n : Nat) : Prop where
  head : W.heap[R]? = some (.cells #[.pointer (some ⟨C, 0, none⟩), .int .i64 (base : Int), .int .i64 (n : Int)] 38 (0, 0))
  room : base + n ≤ 4096
theorem RefK.ltR {W : World} {R C base n : Nat} (h : RefK W R C base n) : R < W.heap.size := (Array.getElem?_eq_some_iff.1 h.head).1
theorem RefK.cell0 {W : World} {R C base n : Nat} (h : RefK W R C base n) : W.cell? ⟨R, 0, none⟩ = some (.pointer (some ⟨C, 0, none⟩)) := by simp [World.cell?, h.head]
theorem RefK.cell1 {W : World} {R C base n : Nat} (h : RefK W R C base n) : W.cell? ⟨R, 1, none⟩ = some (.int .i64 (base : Int)) := by simp [World.cell?, h.head]
theorem RefK.cell2 {W : World} {R C base n : Nat} (h : RefK W R C base n) : W.cell? ⟨R, 2, none⟩ = some (.int .i64 (n : Int)) := by simp [World.cell?, h.head]
theorem RefK.but {W W' : World} {R C base n : Nat} (h : RefK W R C base n) {S : List Nat} (hb : But S W W') (h1 : R ∉ S) : RefK W' R C base n := ⟨(hb.block R h.ltR h1).trans h.head, h.room⟩
theorem RefK.drewN {W : World} {R C base n : Nat} (h : RefK W R C base n) (k : Nat) : RefK (W.drewN k) R C base n := ⟨h.head, h.room⟩

theorem khas_any {R C base n : Nat} (k : Int) (w : World) (h : RefK w R C base n) :
    Calls Try.prog 16 #[.pointer (some ⟨R, 0, none⟩), .int .i64 k] w fun e w' => e = .returned (.bool (inRow n k)) ∧ w' = w := by
  have hc := h.cell2
  clear h
  by_cases h0 : k < 0
  · have t1 : decide (0 ≤ k) = false := by simp; omega
    rw [show inRow n k = false from decide_eq_false (by omega)]
    go_enter Try.func16, Try.ntmps16
    go_wp2_with fail
    go_ret
    exact ⟨rfl, rfl⟩
  · have t1 : 0 ≤ k := by omega
    have t2 : decide (0 ≤ k) = true := decide_eq_true t1
    have hR : Hid (inRow n k = decide (k < (n : Int))) := by unfold inRow; show _ = _; simp [t1]
    go_enter Try.func16, Try.ntmps16
    go_wp2_with fail
    go_ret
    exact ⟨by rw [hR.out]; rfl, rfl⟩

theorem RefNow.undrew {w w' : World} {C g n : Nat} {vs : List Nat} (h : RefNow w.drew C g vs n w') : RefNow w C g vs n w' := by
  obtain ⟨g', h1, h2, h3⟩ := h
  exact ⟨g', h1, h2, ⟨h3.os, h3.tape, h3.output, h3.size, h3.block⟩⟩

theorem kturn_any {R C g base n c : Nat} {vs : List Nat} (k : Int) (w : World) (h : RefK w R C base n) (hC : RefC w C g vs c) (hl : base + n ≤ vs.length) :
    Calls Try.prog 15 #[.pointer (some ⟨R, 0, none⟩), .int .i64 k] w fun e w' => e = .returned (.int .u64 (turnE base n vs k : Int)) ∧ ∃ m, w' = w.drewN m := by
  have hhas := khas_any k w h
  cases hin : inRow n k with
  | true =>
    obtain ⟨j, rfl, hj⟩ := inRow_nat hin
    rw [turnE_nat hj]
    rw [hin] at hhas
    have c0 := h.cell0
    have c1 := h.cell1
    have hr := h.room
    obtain ⟨i, hi⟩ : ∃ i, i = base + j := ⟨_, rfl⟩
    have hii : i < vs.length := by omega
    have hlen := hC.len
    have hp := fun m => rpeek_any (i : Int) (w.drewN m) (hC.drewN m) (by omega) (by omega)
    rw [cellAt_nat hii] at hp
    have e1 : IntKind.i64.wrap ((base : Int) + (j : Int)) = (i : Int) := by rw [IntWalk.i64_in _ (by omega)]; omega
    rw [← hi]
    clear h hC hin hi
    go_enter Try.func15, Try.ntmps15
    go_wp2_with fail
    refine hhas.mono ?_
    rintro e w' ⟨rfl, rfl⟩
    go_wp2_with fail
    go_quiet (first | (go_at_call 31; with_reducible exact Calls.quiet_of_same (hp _)))
    clear e1
    go_wp2_with fail
    go_ret
    exact ⟨rfl, _, rfl⟩
  | false =>
    rw [turnE_out hin]
    rw [hin] at hhas
    clear h hC hin
    go_enter Try.func15, Try.ntmps15
    go_wp2_with fail
    refine hhas.mono ?_
    rintro e w' ⟨rfl, rfl⟩
    go_wp2_with fail
    go_ret
    exact ⟨rfl, 0, rfl⟩

theorem RefNow.undrewN {w w' : World} {C g n : Nat} {vs : List Nat} (m : Nat) (h : RefNow (w.drewN m) C g vs n w') : RefNow w C g vs n w' := by
  obtain ⟨g', h1, h2, h3⟩ := h
  exact ⟨g', h1, h2, ⟨h3.os, h3.tape, h3.output, h3.size, h3.block⟩⟩
theorem odd_bool (x : Nat) : Hid (((x : Int) % 2 == 1) = isOdd x) := Lib.hid (by
  have := (beq_nat (x % 2) 1).out
  unfold isOdd; rw [← this]; simp)
theorem even_bool (x : Nat) : Hid (((x : Int) % 2 == 0) = !isOdd x) := Lib.hid (by
  have := (beq_nat (x % 2) 0).out
  unfold isOdd
  rw [show (((x : Int) % 2 == 0)) = decide (x % 2 = 0) by rw [← this]; simp]
  by_cases e : x % 2 = 1
  · simp [e]
  · simp [e]; omega)

theorem kopen_any {R C g base n c : Nat} {vs : List Nat} (k : Int) (w : World) (h : RefK w R C base n) (hC : RefC w C g vs c) (hl : base + n ≤ vs.length) :
    Calls Try.prog 11 #[.pointer (some ⟨R, 0, none⟩), .int .i64 k] w fun e w' => e = .returned (.int .u64 (openE base n vs k : Int)) ∧ RefNow w C g (openV base n vs k) (openC base n vs k c) w' := by
  have hturn := kturn_any k w h hC hl
  cases hin : inRow n k with
  | true =>
    obtain ⟨j, rfl, hj⟩ := inRow_nat hin
    have hhas := fun m => khas_any (j : Int) (w.drewN m) (h.drewN m)
    rw [hin] at hhas
    obtain ⟨i, hi⟩ : ∃ i, i = base + j := ⟨_, rfl⟩
    have hii : i < vs.length := by omega
    have hlen := hC.len
    rw [turnE_nat hj, ← hi] at hturn
    obtain ⟨x, hx⟩ : ∃ x, x = nth vs i := ⟨_, rfl⟩
    rw [← hx] at hturn
    have hob := (odd_bool x).out
    cases ho : isOdd x with
    | true =>
      have hop : opens base n vs (j : Int) = false := by unfold opens openIs; rw [turnE_nat hj, ← hi, ← hx, ho]; simp
      rw [openE, openV, openC, hop, turnE_nat hj, ← hi, ← hx]
      rw [ho] at hob
      have HC := hC
      clear h hC hin hi hop hx
      go_enter Try.func11, Try.ntmps11
      go_wp2_with fail
      refine hturn.mono ?_
      rintro e w' ⟨rfl, m, rfl⟩
      go_wp2_with fail
      refine (hhas m).mono ?_
      rintro e w' ⟨rfl, rfl⟩
      go_wp2_with fail
      go_ret
      exact ⟨rfl, g, HC.drewN m, .inl rfl, (But.refl _ _).drewN m⟩
    | false =>
      have hop : opens base n vs (j : Int) = true := by unfold opens openIs; rw [turnE_nat hj, ← hi, ← hx, ho, hin]; rfl
      rw [openE, openV, openC, hop, if_pos rfl, if_pos rfl, if_pos rfl, turnE_nat hj, Int.toNat_natCast, ← hi, ← hx]
      rw [ho] at hob
      have hr := h.room
      have hks := fun m => (h.drewN m).cell0
      have hks1 := fun m => (h.drewN m).cell1
      have hadd := fun m => radd_any (i : Int) 1 (w.drewN m).drew (hC.drewN m).drew (by omega) (by omega)
      rw [cellAt_nat hii, addAt, putAt, countUp, inRow_of hii, if_pos rfl, if_pos rfl, cellAt_nat hii, Int.toNat_natCast, plus_one, ← hx] at hadd
      have e1 : IntKind.i64.wrap ((base : Int) + (j : Int)) = (i : Int) := by rw [IntWalk.i64_in _ (by omega)]; omega
      have hw := u64_succ' x
      clear h hC hin hi hop hx
      go_enter Try.func11, Try.ntmps11
      go_wp2_with fail
      refine hturn.mono ?_
      rintro e wz ⟨rfl, m, hm⟩
      have d0 := hks m
      have d1 := hks1 m
      have d2 := hhas m
      have d3 := hadd m
      rw [← hm] at d0 d1 d2 d3
      have HM := Lib.hid hm
      clear hks hks1 hhas hadd hm hturn
      go_wp2_with fail
      refine d2.mono ?_
      rintro e w' ⟨rfl, rfl⟩
      go_wp2_with fail
      refine wp_region_still_tail 10 (by kernel_rfl) (by kernel_rfl) ?_
      simp only [List.take_succ_cons, List.take_zero, List.drop_succ_cons, List.drop_zero]
      change wpStill _ _ w'.drew (fun a' => wpList _ _ _ _ a' w'.drew) _ _
      repeat still_step
      refine wpStill_nil ?_
      clear e1
      go_wp2_with fail
      refine d3.mono ?_
      rintro e w2 ⟨rfl, hR2⟩
      go_wp2_with fail
      go_ret
      exact ⟨rfl, (by rw [← HM.out]; exact hR2.undrew : RefNow (w.drewN m) C g _ _ w2).undrewN m⟩
  | false =>
    have hhas := fun m => khas_any k (w.drewN m) (h.drewN m)
    rw [hin] at hhas
    have hop : opens base n vs k = false := by unfold opens; rw [hin]; rfl
    rw [openE, openV, openC, hop, turnE_out hin]
    rw [turnE_out hin] at hturn
    have HC := hC
    clear h hC hin hop
    go_enter Try.func11, Try.ntmps11
    go_wp2_with fail
    refine hturn.mono ?_
    rintro e w' ⟨rfl, m, rfl⟩
    go_wp2_with fail
    refine (hhas m).mono ?_
    rintro e w' ⟨rfl, rfl⟩
    go_wp2_with fail
    go_ret
    exact ⟨rfl, g, HC.drewN m, .inl rfl, (But.refl _ _).drewN m⟩

theorem kclaim_any {R C g base n c : Nat} {vs : List Nat} (k : Int) (t : Nat) (w : World) (h : RefK w R C base n) (hC : RefC w C g vs c) (hl : base + n ≤ vs.length) :
    Calls Try.prog 13 #[.pointer (some ⟨R, 0, none⟩), .int .i64 k, .int .u64 (t : Int)] w fun e w' => e = .returned (.bool (claimE base n vs k t)) ∧ RefNow w C g (claimV base n vs k t) (claimC n k t c) w' := by
  have hhas := khas_any k w h
  cases hin : inRow n k with
  | true =>
    obtain ⟨j, rfl, hj⟩ := inRow_nat hin
    rw [hin] at hhas
    have heb := (even_bool t).out
    cases ht : isOdd t with
    | true =>
      have h1 : tries n (j : Int) t = true := by unfold tries; rw [hin, ht]; rfl
      obtain ⟨i, hi⟩ : ∃ i, i = base + j := ⟨_, rfl⟩
      have hii : i < vs.length := by omega
      have h2 : claimE base n vs (j : Int) t = decide (nth vs i = t) := by unfold claimE; rw [h1, turnE_nat hj, ← hi]; rfl
      have h3 : claimV base n vs (j : Int) t = casV vs i t (up t) := by
        unfold claimV casV; rw [h2, Int.toNat_natCast, ← hi]
        by_cases e : nth vs i = t
        · simp [e]
        · simp [e]
      rw [h2, h3, claimC, h1, if_pos rfl]
      rw [ht] at heb
      replace heb : ((t : Int) % 2 == 0) = false := heb
      have c0 := h.cell0
      have c1 := h.cell1
      have hr := h.room
      have hlen := hC.len
      have hcas := rcas_any (i : Int) t (up t) w.drew hC.drew (by omega) (by omega) (up_lt t)
      rw [casIs, casAt, countUp, inRow_of hii, if_pos rfl, if_pos rfl, Bool.true_and, Int.toNat_natCast] at hcas
      have e1 : IntKind.i64.wrap ((base : Int) + (j : Int)) = (i : Int) := by rw [IntWalk.i64_in _ (by omega)]; omega
      have e2 := u64_succ' t
      clear h hC hin hi h1 h2 h3 ht
      go_enter Try.func13, Try.ntmps13
      go_wp2_with fail
      refine hhas.mono ?_
      rintro e w' ⟨rfl, rfl⟩
      go_wp2_with fail
      refine wp_region_still_tail 13 (by kernel_rfl) (by kernel_rfl) ?_
      simp only [List.take_succ_cons, List.take_zero, List.drop_succ_cons, List.drop_zero]
      change wpStill _ _ w'.drew (fun a' => wpList _ _ _ _ a' w'.drew) _ _
      repeat still_step
      refine wpStill_nil ?_
      clear e1 e2
      go_wp2_with fail
      refine hcas.mono ?_
      rintro e w2 ⟨rfl, hR2⟩
      go_wp2_with fail
      go_ret
      exact ⟨rfl, hR2.undrew⟩
    | false =>
      have h1 : tries n (j : Int) t = false := by unfold tries; rw [hin, ht]; rfl
      have h2 : claimE base n vs (j : Int) t = false := by unfold claimE; rw [h1]; rfl
      rw [claimV, h2, claimC, h1]
      rw [ht] at heb
      replace heb : ((t : Int) % 2 == 0) = true := heb
      have HC := hC
      clear h hC hin h1 h2 ht
      go_enter Try.func13, Try.ntmps13
      go_wp2_with fail
      refine hhas.mono ?_
      rintro e w' ⟨rfl, rfl⟩
      go_wp2_with fail
      go_ret
      exact ⟨rfl, g, HC, .inl rfl, .refl _ _⟩
  | false =>
    rw [hin] at hhas
    have h1 : tries n k t = false := by unfold tries; rw [hin]; rfl
    have h2 : claimE base n vs k t = false := by unfold claimE; rw [h1]; rfl
    rw [claimV, h2, claimC, h1]
    have HC := hC
    clear h hC hin h1 h2
    go_enter Try.func13, Try.ntmps13
    go_wp2_with fail
    refine hhas.mono ?_
    rintro e w' ⟨rfl, rfl⟩
    go_wp2_with fail
    go_ret
    exact ⟨rfl, g, HC, .inl rfl, .refl _ _⟩
end Go.Proofs.Ytbpelcclkmmglaa
