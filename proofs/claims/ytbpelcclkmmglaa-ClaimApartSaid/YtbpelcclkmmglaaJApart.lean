/-
  The walk of the law ClaimApart.
-/
import Derived.Deep.CutRange
import Derived.Deep.Light
import Derived.Test.YtbpelcclkmmglaaJApartM
namespace Go.Proofs.Ytbpelcclkmmglaa
open Go.RowKit

set_option maxRecDepth 100000 in
set_option maxHeartbeats 2000000 in
theorem apart_loop (q b off cap : Nat) (ss : List (Int × Int × Nat)) (hq : q < 256) (w : World) (hl : ss.length ≤ 300) (h0 : 0 < ss.length)
    (hc : ∀ j, j < ss.length → StepAt w b (off + j * 3) (ss[j]?.getD (0, 0, 0))) :
    Calls Try.prog 5 #[.slice (some ⟨b, off, none⟩) ss.length cap, .int .u8 (q : Int)] w fun e w' => e = .returned (.bool true) ∧ Below w.heap.size w w' := by
  have hl1 : decide ((300 : Int) < (ss.length : Int)) = false := by simp; omega
  have hl2 : ¬ (300 : Int) < (ss.length : Int) := by omega
  obtain ⟨o, ho⟩ : ∃ o, o = q % 8 := ⟨_, rfl⟩
  have ho8 : o < 8 := by omega
  have hq1 : (q : Int) % 8 = (o : Int) := by omega
  have hq2 : (q : Int).tmod 8 = (o : Int) := by rw [Int.tmod_eq_emod_of_nonneg (by omega)]; omega
  clear ho
  go_enter Try.func5, Try.ntmps5
  go_wp2_with fail
  refine (cell_new_at (n := 20) _ (Lib.hid rfl) (by omega) (by omega)).mono ?_
  rintro e w1 ⟨B, V, rfl, hC, hV, hB, hz⟩
  go_wp2_with fail
  refine (knew_at (base := 0) (n := 8) _ hC (by omega) (by omega) (by simp) (Lib.hid ⟨rfl, rfl⟩)).mono ?_
  rintro e w2 ⟨L, P, Q, rfl, hL, hg, -⟩
  have hA : Apt w w2 L P Q B V 0 (List.replicate 20 0) 0 := ⟨hL, hC.but hg (by simp) (by simp), hz.next hg, ⟨hB, hV⟩, by simp, fun x hx => by simp at hx; omega⟩
  clear hC hL hz hg
  go_wp2_with fail
  clear hq1 hq2
  go_loopw [10] (fun iv wr => ∃ (j : Nat) (vs : List Nat) (c : Nat), j ≤ ss.length ∧ iv = .int .i64 (j : Int) ∧ Apt w wr L P Q B V j vs c) (fun iv _ => ss.length - (intOf iv).toNat)
  case atStart => exact ⟨0, _, _, Nat.zero_le _, rfl, hA⟩
  case round =>
    clear hA
    obtain ⟨j, vs, c, hj, rfl, hA⟩ := hrel
    by_cases hlt : j < ss.length
    · have hlt' : (j : Int) < (ss.length : Int) := by omega
      have hs := hc j hlt
      clear hc
      obtain ⟨s, hse⟩ : ∃ s, ss[j]?.getD (0, 0, 0) = s := ⟨_, rfl⟩
      rw [hse] at hs
      clear hse
      obtain ⟨d, kk, t⟩ := s
      obtain ⟨y0, y1, y2, kk1, kk2, -⟩ := hs
      simp only at y0 y1 y2 kk1 kk2
      have z0 := hA.but.cell y0 (by simp)
      have z1 := hA.but.cell y1 (by simp)
      clear y0 y1 y2
      have hvl : 0 + 8 ≤ vs.length := by have := hA.len; omega
      obtain ⟨a, ha8, ha⟩ := mod_row kk (m := 8) (by omega) (by omega)
      replace ha8 : a < 8 := by omega
      have hj' : j < 18446744073709551615 := by omega
      go_wp2_with fail
      refine (turn_any (o : Int) _ hA.clm hA.cels hvl).mono ?_
      rintro e wx ⟨rfl, rfl⟩
      rw [ha]
      clear ha
      obtain ⟨x, hx⟩ : ∃ x, x = turnE 0 8 vs (o : Int) := ⟨_, rfl⟩
      rw [← hx]
      have HX := Lib.hid hx
      clear hx
      by_cases e0 : d = 0
      · subst e0
        go_wp2_with fail
        refine (open_any (a : Int) _ hA.clm hA.cels hvl).mono ?_
        rintro e wa ⟨rfl, hC, hg⟩
        have hA1 := hA.next hC hg (openV_len _ _ _ _) (openV_le hA.low _)
        have hne : a ≠ o → turnE 0 8 (openV 0 8 vs (a : Int)) (o : Int) = x := fun h => by rw [HX.out]; exact turn_open_ne ho8 h
        have hup : a = o → x ≤ turnE 0 8 (openV 0 8 vs (a : Int)) (o : Int) := fun h => by subst h; rw [HX.out]; exact turn_open_up ho8 hvl hA.low hj'
        have hvl1 : 0 + 8 ≤ (openV 0 8 vs (a : Int)).length := by rw [openV_len]; exact hvl
        clear hA hC hg
        obtain ⟨vs1, hv1⟩ : ∃ v, v = openV 0 8 vs (a : Int) := ⟨_, rfl⟩
        rw [← hv1] at hA1 hne hup hvl1
        clear hv1
        by_cases h : a = o
        · subst h
          have hle := hup rfl
          have t1 : ((a : Int) != (a : Int)) = false := by simp
          have t2 : ((a : Int) == (a : Int)) = true := by simp
          have t3 : decide ((turnE 0 8 vs1 (a : Int) : Int) < (x : Int)) = false := decide_eq_false (by omega)
          have t4 : ¬ (turnE 0 8 vs1 (a : Int) : Int) < (x : Int) := by omega
          clear hne hup hle
          go_wp2_with fail
          refine (turn_any (a : Int) _ hA1.clm hA1.cels hvl1).mono ?_
          rintro e wx ⟨rfl, rfl⟩
          go_wp2_with fail
          go_roundw
          case rel => exact ⟨j + 1, _, _, by omega, by go_num, hA1⟩
          case measure => simp [intOf]; omega
        · have heq := hne h
          have t1 : ((a : Int) != (o : Int)) = true := by simp; omega
          have t2 : ((a : Int) == (o : Int)) = false := by simp; omega
          have t3 : ((x : Int) != (x : Int)) = false := by simp
          have hturn := turn_any (o : Int) _ hA1.clm hA1.cels hvl1
          rw [heq] at hturn
          clear hne hup heq h
          go_wp2_with fail
          refine hturn.mono ?_
          rintro e wx ⟨rfl, rfl⟩
          go_wp2_with fail
          go_roundw
          case rel => exact ⟨j + 1, _, _, by omega, by go_num, hA1⟩
          case measure => simp [intOf]; omega
      · have e0' : (d == 0) = false := by simp [e0]
        go_wp2_with fail
        refine (turn_any (a : Int) _ hA.clm hA.cels hvl).mono ?_
        rintro e wx ⟨rfl, rfl⟩
        go_wp2_with fail
        refine (claim_any (a : Int) (turnE 0 8 vs (a : Int)) _ hA.clm hA.cels hvl).mono ?_
        rintro e wa ⟨rfl, hC, hg⟩
        have hA1 := hA.next hC hg (claimV_len _ _ _ _ _) (claimV_le hA.low _ _)
        have hne : a ≠ o → turnE 0 8 (claimV 0 8 vs (a : Int) (turnE 0 8 vs (a : Int))) (o : Int) = x := fun h => by rw [HX.out]; exact turn_claim_ne _ ho8 h
        have hup : a = o → x ≤ turnE 0 8 (claimV 0 8 vs (a : Int) (turnE 0 8 vs (a : Int))) (o : Int) := fun h => by subst h; rw [HX.out]; exact turn_claim_up _ ho8 hvl hA.low hj'
        have hvl1 : 0 + 8 ≤ (claimV 0 8 vs (a : Int) (turnE 0 8 vs (a : Int))).length := by rw [claimV_len]; exact hvl
        clear hA hC hg
        obtain ⟨vs1, hv1⟩ : ∃ v, v = claimV 0 8 vs (a : Int) (turnE 0 8 vs (a : Int)) := ⟨_, rfl⟩
        rw [← hv1] at hA1 hne hup hvl1
        clear hv1
        by_cases h : a = o
        · subst h
          have hle := hup rfl
          have t1 : ((a : Int) != (a : Int)) = false := by simp
          have t2 : ((a : Int) == (a : Int)) = true := by simp
          have t3 : decide ((turnE 0 8 vs1 (a : Int) : Int) < (x : Int)) = false := decide_eq_false (by omega)
          have t4 : ¬ (turnE 0 8 vs1 (a : Int) : Int) < (x : Int) := by omega
          clear hne hup hle
          go_wp2_with fail
          refine (turn_any (a : Int) _ hA1.clm hA1.cels hvl1).mono ?_
          rintro e wx ⟨rfl, rfl⟩
          go_wp2_with fail
          go_roundw
          case rel => exact ⟨j + 1, _, _, by omega, by go_num, hA1⟩
          case measure => simp [intOf]; omega
        · have heq := hne h
          have t1 : ((a : Int) != (o : Int)) = true := by simp; omega
          have t2 : ((a : Int) == (o : Int)) = false := by simp; omega
          have t3 : ((x : Int) != (x : Int)) = false := by simp
          have hturn := turn_any (o : Int) _ hA1.clm hA1.cels hvl1
          rw [heq] at hturn
          clear hne hup heq h
          go_wp2_with fail
          refine hturn.mono ?_
          rintro e wx ⟨rfl, rfl⟩
          go_wp2_with fail
          go_roundw
          case rel => exact ⟨j + 1, _, _, by omega, by go_num, hA1⟩
          case measure => simp [intOf]; omega
    · obtain rfl : j = ss.length := by omega
      have hlt' : ¬ (ss.length : Int) < (ss.length : Int) := by omega
      have hBl := hA.but
      clear hc hA
      go_wp2_with fail
      refine (alive_any _).mono ?_
      rintro e wz ⟨rfl, hbz⟩
      have hB' : Below w.heap.size w wz := (hBl.below (Nat.le_refl _) (by simp)).trans (hbz.mono hBl.size)
      clear hBl hbz
      go_wp2_with fail
      go_ret
      exact ⟨rfl, hB'⟩
end Go.Proofs.Ytbpelcclkmmglaa
