/-
  The walk of the law ClaimPlays.
-/
import Derived.Deep.CutRange
import Derived.Deep.Light
import Derived.Deep.RegionHeld3
import Derived.Deep.DrawnRows
import Derived.Test.YtbpelcclkmmglaaJPlaysM
namespace Go.Proofs.Ytbpelcclkmmglaa
open Go.RowKit

set_option maxRecDepth 100000 in
set_option maxHeartbeats 3200000 in
theorem plays_loop (len base n : Nat) (hlen1 : 1 ≤ len) (hlen2 : len ≤ 200) (hn1 : 1 ≤ n) (hn2 : n ≤ 32) (hbn : base + n ≤ len) (k : Int) (b off cap : Nat) (ss : List (Int × Int × Nat)) (w : World) (hl : ss.length ≤ 300) (h0 : 0 < ss.length)
    (hc : ∀ j, j < ss.length → StepAt w b (off + j * 3) (ss[j]?.getD (0, 0, 0))) :
    Calls Try.prog 3 #[.int .i64 (len : Int), .int .i64 (base : Int), .int .i64 (n : Int), .slice (some ⟨b, off, none⟩) ss.length cap, .int .i64 k] w fun e w' => e = .returned (.bool true) ∧ Below w.heap.size w w' := by
  obtain ⟨i0, hi, iz0, iz1, iz2⟩ := info_parts infoU64
  have hl1 : decide ((300 : Int) < (ss.length : Int)) = false := by simp; omega
  have hl2 : ¬ (300 : Int) < (ss.length : Int) := by omega
  have hl3 : decide ((200 : Int) < (len : Int)) = false := by simp; omega
  have hl4 : ¬ (200 : Int) < (len : Int) := by omega
  have q1 : decide ((n : Int) < 1) = false := by simp; omega
  have q1' : ¬ (n : Int) < 1 := by omega
  have q2 : decide ((32 : Int) < (n : Int)) = false := by simp; omega
  have q2' : ¬ (32 : Int) < (n : Int) := by omega
  have q3 : decide ((base : Int) < 0) = false := by simp
  have q4 : decide ((len : Int) - (n : Int) < (base : Int)) = false := by simp; omega
  have q4' : ¬ (len : Int) - (n : Int) < (base : Int) := by omega
  go_enter Try.func3, Try.ntmps3
  go_wp2_with fail
  refine (nothing_any _).mono ?_
  rintro e w ⟨rfl, rfl⟩
  go_wp2_with fail
  refine (cell_new len hlen1 (by omega) _).mono ?_
  rintro e w1 ⟨B, V, rfl, hC, hV, hB, hz⟩
  go_wp2_with fail
  refine (knew_ok _ hC hn1 hn2 (by simpa using hbn)).mono ?_
  rintro e w2 ⟨L, P, Q, rfl, hL, hg, -⟩
  have hC2 := hC.but hg (by simp) (by simp)
  have hz2 := hz.next hg
  clear hC hg hz
  go_wp2_with (at_make; refine wpList_make_full _ rfl _ _ 32 rfl w2.heap.size 33 i0 (.int .u64 0) 1 Try.underlying32 hi iz0 iz1 .i64 .i64 _ _ len rfl rfl rfl rfl (by rw [iz2]; omega) (by unfold maxLen; omega) (Nat.le_refl _) ?_; intro w3 hown hgrow)
  have hD := Duo.first hL hC2 hz2 hB hV (by omega) hbn hgrow hown
  clear hL hC2 hz2 hB hV hgrow hown
  obtain ⟨R, hR⟩ : ∃ R, R = w3.heap.size + 1 := ⟨_, rfl⟩
  obtain ⟨C, hCC⟩ : ∃ C, C = w3.heap.size := ⟨_, rfl⟩
  rw [← hR, ← hCC] at hD ⊢
  clear hR hCC
  clear q1 q1' q2 q2' q3 q4 q4' hl1 hl2 hl3 hl4
  go_loopw [17] (fun iv wr => ∃ (j : Nat) (vs : List Nat) (c : Nat), j ≤ ss.length ∧ iv = .int .i64 (j : Int) ∧ Duo w wr L P Q B V base n R C len vs c vs c) (fun iv _ => ss.length - (intOf iv).toNat)
  case atStart => exact ⟨0, _, _, Nat.zero_le _, rfl, hD⟩
  case round =>
    clear hD
    obtain ⟨j, vs, c, hj, rfl, hD⟩ := hrel
    by_cases hlt : j < ss.length
    · have hlt' : (j : Int) < (ss.length : Int) := by omega
      have hs := hc j hlt
      clear hc
      obtain ⟨s, hse⟩ : ∃ s, ss[j]?.getD (0, 0, 0) = s := ⟨_, rfl⟩
      rw [hse] at hs
      clear hse
      obtain ⟨d, kk, t⟩ := s
      obtain ⟨y0, y1, y2, kk1, kk2, t2⟩ := hs
      simp only at y0 y1 y2 kk1 kk2 t2
      have z0 := hD.but.cell y0 (by simp)
      have z1 := hD.but.cell y1 (by simp)
      have z2 := hD.but.cell y2 (by simp)
      clear y0 y1 y2
      go_upto_region 20 with fail
      iterate 10 go_step
      have hU := hD.beside (dd := d) (kk := kk) (t := t) (ty := 40)
      clear hD z0 z1 z2
      generalize wr.alloc (.cells #[.int .i64 d, .int .i64 kk, .int .u64 (t : Int)] 40) = wy at *
      generalize wr.heap.size = D at *
      go_cut [19] from 90 to 216 (fun bv wx => ∃ (vs : List Nat) (c : Nat), bv = .bool true ∧ DuoS w wx L P Q B V base n R C len vs c vs c D kk t)
      case first =>
        by_cases e0 : d = 0
        · subst e0
          have hU0 := hU.drew
          have x1 := hU.s1
          go_wp2_with fail
          go_region_held3 (fun w' => w'.cell? ⟨D, 1, none⟩ = some (.int .i64 kk)) (with_reducible first | (exact hU0.s1) | (exact hUa.s1) | (exact hUb.s1)) ((with_reducible first | (go_at_call 10; refine (duo_open kk hU0).mono ?_; rintro e wa ⟨rfl, hUa⟩) | (go_at_call 11; refine (duo_kopen kk hUa).mono ?_; rintro e wb ⟨rfl, hUb⟩)))
          all_goals go_wp2_with fail
          all_goals go_meet
          all_goals exact ⟨_, _, rfl, hUb⟩
        by_cases e1 : d = 1
        · subst e1
          have hU0 := hU.drew
          have x1 := hU.s1
          have x2 := hU.s2
          go_wp2_with fail
          go_region_held3 (fun w' => w'.cell? ⟨D, 1, none⟩ = some (.int .i64 kk) ∧ w'.cell? ⟨D, 2, none⟩ = some (.int .u64 (t : Int))) (with_reducible first | (exact ⟨hU0.s1, hU0.s2⟩) | (exact ⟨hUa.s1, hUa.s2⟩) | (exact ⟨hUb.s1, hUb.s2⟩)) ((with_reducible first | (go_at_call 12; refine (duo_claim kk t hU0).mono ?_; rintro e wa ⟨rfl, hUa⟩) | (go_at_call 13; refine (duo_kclaim kk t hUa).mono ?_; rintro e wb ⟨rfl, hUb⟩)))
          all_goals go_wp2_with fail
          all_goals go_meet
          all_goals exact ⟨_, _, rfl, hUb⟩
        by_cases e2 : d = 2
        · subst e2
          have hU0 := hU.drew
          have x1 := hU.s1
          go_wp2_with fail
          go_region_held3 (fun w' => w'.cell? ⟨D, 1, none⟩ = some (.int .i64 kk)) (with_reducible first | (exact hU0.s1) | (exact hUa.s1) | (exact hUb.s1) | (exact hUc.s1) | (exact hUd.s1)) ((with_reducible first | (go_at_call 14; refine (duo_turn kk hU0).mono ?_; rintro e wa ⟨rfl, hUa⟩) | (go_at_call 12; refine (duo_claim kk (turnE base n vs kk) hUa).mono ?_; rintro e wb ⟨rfl, hUb⟩) | (go_at_call 15; refine (duo_kturn kk hUb).mono ?_; rintro e wc ⟨rfl, hUc⟩) | (go_at_call 13; refine (duo_kclaim kk (turnE base n vs kk) hUc).mono ?_; rintro e we ⟨rfl, hUd⟩)))
          all_goals go_wp2_with fail
          all_goals go_meet
          all_goals exact ⟨_, _, rfl, hUd⟩
        by_cases e3 : d = 3
        · subst e3
          have x1 := hU.s1
          have hhas := khas_any kk wy hU.duo.refk
          cases hin : inRow n kk with
          | true =>
            rw [hin] at hhas
            obtain ⟨a, rfl, ha⟩ := inRow_nat hin
            have x2 := hU.s2
            clear hin
            go_wp2_with fail
            refine hhas.mono ?_
            rintro e wy ⟨rfl, rfl⟩
            go_wp2_with fail
            refine (duo_write ((base : Int) + (a : Int)) t hU (by omega) (by omega) t2).mono ?_
            rintro e wa ⟨rfl, hUa⟩
            have x1 := hUa.s1
            have x2 := hUa.s2
            go_wp2_with fail
            refine (duo_kwrite ((base : Int) + (a : Int)) t hUa (by omega) (by omega) t2).mono ?_
            rintro e wb ⟨rfl, hUb⟩
            go_wp2_with fail
            go_meet
            case rel => exact ⟨_, _, rfl, hUb⟩
          | false =>
            rw [hin] at hhas
            clear hin
            go_wp2_with fail
            refine hhas.mono ?_
            rintro e wy ⟨rfl, rfl⟩
            go_wp2_with fail
            go_meet
            case rel => exact ⟨_, _, rfl, hU⟩
        · go_wp2_with fail
          go_meet
          case rel => exact ⟨_, _, rfl, hU⟩
      case rest =>
        obtain ⟨vs', c', rfl, hU2⟩ := hcut
        clear hU
        have x1 := hU2.s1
        obtain ⟨p1, p2, p3, p4, p5, x3⟩ := duo_q hU2
        have r1 : ((turnE base n vs' k : Int) != (turnE base n vs' k : Int)) = false := by simp
        have r2 : ((turnE base n vs' kk : Int) != (turnE base n vs' kk : Int)) = false := by simp
        have r3 : ((c' : Int) != (c' : Int)) = false := by simp
        have r4 : ((n : Int) != (n : Int)) = false := by simp
        obtain ⟨z, hz⟩ : ∃ z, isOdd (turnE base n vs' k) = z := ⟨_, rfl⟩
        have r5 : (((turnE base n vs' k : Nat) : Int) % 2 == 1) = z := (odd_bool _).out.trans hz
        have r6 : (z != z) = false := by cases z <;> rfl
        have p3' := p3 k
        rw [hz] at p3'
        clear p3 hz
        go_wp2_with fail
        go_quiet (first | (go_at_call 14; with_reducible exact Calls.quiet_of_same (p1 _ _)) | (go_at_call 15; with_reducible exact Calls.quiet_of (p2 _ _)) | (go_at_call 19; with_reducible exact Calls.quiet_of_same (p3' _)) | (go_at_call 21; with_reducible exact Calls.quiet_of_same (p5 _)) | (go_at_call 20; with_reducible exact Calls.quiet_of_same (p4 _)))
        have hD3 := hU2.duo.drewN nq
        clear hU2 p1 p2 p3' p4 p5 r1 r2 r3 r4 r5 r6 x1 x3
        go_wp2_with fail
        go_roundw
        case rel => exact ⟨j + 1, vs', c', by omega, by go_num, hD3⟩
        case measure => simp [intOf]; omega
    · obtain rfl : j = ss.length := by omega
      have hlt' : ¬ (ss.length : Int) < (ss.length : Int) := by omega
      have hBl := hD.but
      clear hc hD
      go_wp2_with fail
      refine (alive_any _).mono ?_
      rintro e wz ⟨rfl, hbz⟩
      have hB' : Below w.heap.size w wz := (hBl.below (Nat.le_refl _) (by simp)).trans (hbz.mono hBl.size)
      clear hBl hbz
      go_wp2_with fail
      go_ret
      exact ⟨rfl, hB'⟩
end Go.Proofs.Ytbpelcclkmmglaa
