/-
  The walk of the law ClaimOnce.
-/
import Derived.Deep.CutRange
import Derived.Deep.Light
import Derived.Test.YtbpelcclkmmglaaJOnceM
namespace Go.Proofs.Ytbpelcclkmmglaa
open Go.RowKit

set_option maxRecDepth 100000 in
set_option maxHeartbeats 3200000 in
theorem once_loop (b off cap : Nat) (ss : List (Int × Int × Nat)) (w : World) (hl : ss.length ≤ 300) (h0 : 0 < ss.length)
    (hc : ∀ j, j < ss.length → StepAt w b (off + j * 3) (ss[j]?.getD (0, 0, 0))) :
    Calls Try.prog 4 #[.slice (some ⟨b, off, none⟩) ss.length cap] w fun e w' => e = .returned (.bool true) ∧ Below w.heap.size w w' := by
  obtain ⟨i0, hi, iz0, iz1, iz2⟩ := info_parts infoSl
  obtain ⟨i1, hj1, jz0, jz1, jz2⟩ := info_parts infoI64
  obtain ⟨i2, hu, uz0, uz1, uz2⟩ := info_parts infoU64
  have hl1 : decide ((300 : Int) < (ss.length : Int)) = false := by simp; omega
  have hl2 : ¬ (300 : Int) < (ss.length : Int) := by omega
  go_enter Try.func4, Try.ntmps4
  go_wp2_with fail
  refine (cell_new_at (n := 40) _ (Lib.hid rfl) (by omega) (by omega)).mono ?_
  rintro e w1 ⟨B, V, rfl, hC, hV, hB, hz⟩
  go_wp2_with fail
  refine (knew_at (base := 3) (n := 6) _ hC (by omega) (by omega) (by simp) (Lib.hid ⟨rfl, rfl⟩)).mono ?_
  rintro e w2 ⟨L, P, Q, rfl, hL, hg, -⟩
  have hC2 := hC.but hg (by simp) (by simp)
  have hz2 := hz.next hg
  clear hC hz hg
  go_wp2_with (at_make; first | (refine wpList_make_full _ rfl _ _ 48 rfl w2.heap.size 32 i0 (.slice none 0 0) 1 Try.underlying48 hi iz0 iz1 .i64 .i64 6 6 6 rfl rfl rfl rfl (by rw [iz2]; omega) (by unfold maxLen; omega) (Nat.le_refl _) ?_; intro w3 hown1 hgrow1) | (refine wpList_make_full _ rfl _ _ 49 rfl w3.heap.size 3 i1 (.int .i64 0) 1 Try.underlying49 hj1 jz0 jz1 .i64 .i64 6 6 6 rfl rfl rfl rfl (by rw [jz2]; omega) (by unfold maxLen; omega) (Nat.le_refl _) ?_; intro w4 hown2 hgrow2))
  have hO := Once.first hL hC2 hz2 hB hV hown1 hgrow1 hown2 hgrow2
  clear hC2 hL hz2 hown1 hgrow1 hown2 hgrow2
  obtain ⟨T, hT⟩ : ∃ T, T = w2.heap.size := ⟨_, rfl⟩
  obtain ⟨Z, hZ⟩ : ∃ Z, Z = w3.heap.size := ⟨_, rfl⟩
  obtain ⟨bs, hbs⟩ : ∃ bs, bs = w4.heap.size := ⟨_, rfl⟩
  rw [← hT, ← hZ, ← hbs] at hO
  rw [← hT, ← hZ]
  clear hT hZ hbs
  go_loopw [9] (fun iv wr => ∃ (j : Nat) (ns ws : Nat → Nat) (gs : Nat → Value), j ≤ ss.length ∧ iv = .int .i64 (j : Int) ∧ Once w wr L P Q B V T Z bs j ns ws ns ws gs) (fun iv _ => ss.length - (intOf iv).toNat)
  case atStart => exact ⟨0, _, _, _, Nat.zero_le _, rfl, hO⟩
  case round =>
    clear hO
    obtain ⟨j, ns, ws, gs, hj, rfl, hO⟩ := hrel
    by_cases hlt : j < ss.length
    · have hlt' : (j : Int) < (ss.length : Int) := by omega
      have hs := hc j hlt
      clear hc
      obtain ⟨s, hse⟩ : ∃ s, ss[j]?.getD (0, 0, 0) = s := ⟨_, rfl⟩
      rw [hse] at hs
      clear hse
      obtain ⟨d, kk, t⟩ := s
      obtain ⟨y0, y1, y2, -, -, t2⟩ := hs
      simp only at y0 y1 y2 t2
      have z0 := hO.but.cell y0 (by simp)
      have z1 := hO.but.cell y1 (by simp)
      have z2 := hO.but.cell y2 (by simp)
      clear y0 y1 y2
      obtain ⟨k, hk6, hk⟩ := mod_row kk (m := 6) (by omega) (by omega)
      replace hk6 : k < 6 := by omega
      have hk6' : (k : Int) < 6 := by omega
      have hjm : j ≤ 300 := by omega
      have hmost := hO.most k hk6
      have halt := hO.alt k hk6
      have hrow := hO.rows k hk6
      have cT := hO.told.cell hk6
      obtain ⟨n, hn⟩ : ∃ n, ns k = n := ⟨_, rfl⟩
      have HN := Lib.hid hn
      obtain ⟨pa, pc, hgk⟩ := row_slice hrow
      have hpc := row_cap (hgk ▸ hrow)
      rw [hn] at hgk hmost halt hpc
      rw [hgk] at cT
      have HG := Lib.hid hgk
      clear hrow hn hgk
      by_cases e0 : d = 0
      · subst e0
        by_cases hw : n = ws k + 1
        · have hw' := Lib.hid hw
          obtain ⟨q, hq⟩ : ∃ q, q = ws k := ⟨_, rfl⟩
          rw [← hq] at hw
          subst hw
          obtain ⟨g, rfl⟩ := row_some (HG.out ▸ HN.out ▸ hO.rows k hk6) (by omega)
          have cq := odds_cell (HG.out ▸ HN.out ▸ hO.rows k hk6) (j := q) (by omega)
          have t1 : (((q + 1 : Nat) : Int) == 0) = false := by simp; omega
          have t3 : (((2 * q + 1 : Nat) : Int) != ((2 * q + 1 : Nat) : Int)) = false := by simp
          have hopen : ns k = ws k + 1 := HN.out.trans (by omega)
          have HO := Lib.hid hopen
          have HQ := Lib.hid hq
          clear hopen hq
          go_wp2_with fail
          rw [hk]
          clear hk
          refine (isopen_once hO hk6 (Lib.hid (decide_eq_true HO.out))).mono ?_
          rintro e wx ⟨rfl, rfl⟩
          go_wp2_with fail
          have hop := open_once_was hO hk6 HO.out
          rw [← HQ.out] at hop
          refine hop.mono ?_
          rintro e wx ⟨rfl, rfl⟩
          clear hop
          go_wp2_with fail
          refine (isopen_once hO hk6 (Lib.hid (decide_eq_true HO.out))).mono ?_
          rintro e wx ⟨rfl, rfl⟩
          go_wp2_with fail
          go_roundw
          case rel => exact ⟨j + 1, ns, ws, gs, by omega, by go_num, hO.weak⟩
          case measure => simp [intOf]; omega
        · have hshut : ns k = ws k := HN.out.trans (by omega)
          have HS := Lib.hid hshut
          clear hshut hw
          have hop := open_once_new hO hk6 hjm HS.out
          rw [HN.out] at hop
          go_wp2_with fail
          rw [hk]
          clear hk
          refine (isopen_once hO hk6 (Lib.hid (decide_eq_false (by rw [HS.out]; omega)))).mono ?_
          rintro e wx ⟨rfl, rfl⟩
          clear cT z0 z1 z2
          go_wp2_with fail
          refine hop.mono ?_
          rintro e wa ⟨rfl, hO1⟩
          clear hop hO
          have cT := hO1.told.cell hk6
          rw [HG.out] at cT
          have hown := hO1.rows k hk6
          rw [HG.out, HN.out] at hown
          have hio := isopen_once hO1 hk6 (b := true) (Lib.hid (decide_eq_true (by rw [upd_same, ← HS.out, HN.out])))
          cases n with
          | zero =>
            have q1 : decide ((0 : Int) < ((0 : Nat) : Int)) = false := by simp
            go_wp2_with fail
            refine hio.mono ?_
            rintro e wx ⟨rfl, rfl⟩
            clear hio
            go_wp2_with (at_builtin; refine wpList_append_own_at _ rfl _ _ 32 rfl bs 33 i2 (.int .u64 0) 1 8 Try.underlying32 hu uz0 uz1 uz2 rfl (by decide) _ 0 (U64 (odds 0)) rfl (hown.alloc _) ⟨_, 0, none⟩ 1 1 [.int .u64 ((2 * 0 + 1 : Nat) : Int)] rfl rfl ?c1 ?c2 ?c3 ?c4 ?c5 ?_)
            case c1 => exact cell_one_new _ _ _
            case c2 => first | rfl | (intro y hy; simp at hy; subst hy; rfl)
            case c3 => unfold maxLen; omega
            case c4 => omega
            try (case c5 => have := hO1.size; first | exact Nat.le_refl _ | omega | (simp; omega))
            intro v' wb hown' hgrow _ hat
            obtain ⟨g', cap', rfl⟩ := row_more hown'
            obtain ⟨c5, c6⟩ := hO1.place hk6 HG.out hgrow
            have hO2 := hO1.put hk6 (v' := .slice (some ⟨g', 0, none⟩) (0 + 1) cap') (by rw [HN.out]; exact hown') (by rw [HG.out]; exact hgrow) (by rw [HG.out]; exact hat)
            rw [HN.out] at hO2
            clear hown hown' hgrow hat hO1
            go_wp2_with fail
            go_roundw
            case rel => exact ⟨j + 1, _, _, _, by omega, by go_num, hO2⟩
            case measure => simp [intOf]; omega
          | succ m =>
            obtain ⟨g, rfl⟩ := row_some hown (by omega)
            have cq := odds_cell hown (j := m) (by omega)
            have q1 : decide ((0 : Int) < ((m + 1 : Nat) : Int)) = true := by simp
            have q2 : decide (((2 * (m + 1) + 1 : Nat) : Int) ≤ ((2 * m + 1 : Nat) : Int)) = false := decide_eq_false (by omega)
            go_wp2_with fail
            refine hio.mono ?_
            rintro e wx ⟨rfl, rfl⟩
            clear hio
            go_wp2_with (at_builtin; refine wpList_append_own_at _ rfl _ _ 32 rfl bs 33 i2 (.int .u64 0) 1 8 Try.underlying32 hu uz0 uz1 uz2 rfl (by decide) _ (m + 1) (U64 (odds (m + 1))) rfl (hown.alloc _) ⟨_, 0, none⟩ 1 1 [.int .u64 ((2 * (m + 1) + 1 : Nat) : Int)] rfl rfl ?c1 ?c2 ?c3 ?c4 ?c5 ?_)
            case c1 => exact cell_one_new _ _ _
            case c2 => first | rfl | (intro y hy; simp at hy; subst hy; rfl)
            case c3 => unfold maxLen; omega
            case c4 => omega
            try (case c5 => have := hO1.size; first | exact Nat.le_refl _ | omega | (simp; omega))
            intro v' wb hown' hgrow _ hat
            obtain ⟨g', cap', rfl⟩ := row_more hown'
            obtain ⟨c5, c6⟩ := hO1.place hk6 HG.out hgrow
            have hO2 := hO1.put hk6 (v' := .slice (some ⟨g', 0, none⟩) ((m + 1) + 1) cap') (by rw [HN.out]; exact hown') (by rw [HG.out]; exact hgrow) (by rw [HG.out]; exact hat)
            rw [HN.out] at hO2
            clear hown hown' hgrow hat hO1
            go_wp2_with fail
            go_roundw
            case rel => exact ⟨j + 1, _, _, _, by omega, by go_num, hO2⟩
            case measure => simp [intOf]; omega
      · have e0' : (d == 0) = false := by simp [e0]
        cases n with
        | zero =>
          have q1 : (((0 : Nat) : Int) == 0) = true := by simp
          obtain ⟨y, hy, hy0⟩ := or_one t2
          go_wp2_with fail
          rw [hk]
          clear hk hy cT z0 z1 z2
          refine (claim_once_no y hO hk6 (Lib.hid (by rw [HN.out]; omega))).mono ?_
          rintro e wa ⟨rfl, hO1⟩
          clear hO
          go_wp2_with fail
          go_roundw
          case rel => exact ⟨j + 1, _, _, _, by omega, by go_num, hO1.weak⟩
          case measure => simp [intOf]; omega
        | succ m =>
          have q1 : (((m + 1 : Nat) : Int) == 0) = false := by simp; omega
          obtain ⟨p, hpm, hp⟩ := rest_row t m (by omega)
          obtain ⟨g, rfl⟩ := row_some (HG.out ▸ HN.out ▸ hO.rows k hk6) (by omega)
          have cq := odds_cell (HG.out ▸ HN.out ▸ hO.rows k hk6) hpm
          by_cases hw : ws k = m
          · have hopen : ns k = ws k + 1 := HN.out.trans (by omega)
            have HO := Lib.hid hopen
            have hws := hw
            have HW := Lib.hid hws
            clear hopen
            go_wp2_with fail
            rw [hk, hp]
            clear hk hp
            refine (isopen_once hO hk6 (Lib.hid (decide_eq_true HO.out))).mono ?_
            rintro e wx ⟨rfl, rfl⟩
            by_cases hpe : p = m
            · subst hpe
              have t1 : ((p : Int) == (p : Int)) = true := by simp
              clear z0 z1 z2
              go_wp2_with fail
              refine (claim_once_yes (t := 2 * p + 1) hO hk6 hjm HO.out (Lib.hid (by rw [HW.out]))).mono ?_
              rintro e wa ⟨rfl, hO1⟩
              clear hO cq cT
              have cZ := hO1.won.cell hk6
              simp only [hws] at cZ
              have zZ := hO1.won.frozen k
              have hi1 := isopen_once hO1 hk6 (b := false) (Lib.hid (decide_eq_false (by rw [upd_same, HN.out, HW.out]; omega)))
              have hO2 := hO1.win k (x := (p : Int) + 1) (by rw [HW.out]; omega)
              rw [HW.out] at hO2
              have cZ2 := hO2.won.cell hk6
              simp only [upd_same] at cZ2
              have hio := fun q => isopen_once (hO2.drewN q) hk6 (b := false) (Lib.hid (decide_eq_false (by rw [upd_same, HN.out]; omega)))
              have s1 : decide ((p : Int) + 1 < (p : Int) + 1) = false := decide_eq_false (by omega)
              have s2 : ¬ (p : Int) + 1 < (p : Int) + 1 := by omega
              clear hws hw hO1
              go_wp2_with fail
              refine hi1.mono ?_
              rintro e wx ⟨rfl, rfl⟩
              clear hi1
              go_wp2_with fail
              go_quiet (first | (go_at_call 19; with_reducible exact Calls.quiet_of_same (hio _)))
              have hO3 := hO2.drewN nq
              clear hio hO2
              go_wp2_with fail
              go_roundw
              case rel => exact ⟨j + 1, _, _, _, by omega, by go_num, hO3.weak⟩
              case measure => simp [intOf]; omega
            · have t1 : ((p : Int) == (m : Int)) = false := by simp; omega
              have s1 : decide ((m : Int) + 1 < (m : Int)) = false := decide_eq_false (by omega)
              have s2 : ¬ (m : Int) + 1 < (m : Int) := by omega
              have s3 : decide ((m : Int) < (m : Int) + 1) = true := decide_eq_true (by omega)
              have s4 : (m : Int) < (m : Int) + 1 := by omega
              clear z0 z1 z2
              go_wp2_with fail
              refine (claim_once_no (2 * p + 1) hO hk6 (Lib.hid (by rw [HN.out]; omega))).mono ?_
              rintro e wa ⟨rfl, hO1⟩
              have cZ := hO1.won.cell hk6
              simp only [hws] at cZ
              have hio := fun q => isopen_once (hO1.drewN q) hk6 (b := true) (Lib.hid (decide_eq_true HO.out))
              clear hO hpe cT cq
              clear hws hw
              go_wp2_with fail
              go_quiet (first | (go_at_call 19; with_reducible exact Calls.quiet_of_same (hio _)))
              have hO3 := hO1.drewN nq
              clear hio hO1
              go_wp2_with fail
              go_roundw
              case rel => exact ⟨j + 1, _, _, _, by omega, by go_num, hO3.weak⟩
              case measure => simp [intOf]; omega
          · have hws : ws k = m + 1 := by omega
            have hshut : ¬ ns k = ws k + 1 := by rw [HN.out]; omega
            have HO := Lib.hid hshut
            have hpe : True := trivial
            clear hshut
            go_wp2_with fail
            rw [hk, hp]
            clear hk hp
            refine (isopen_once hO hk6 (Lib.hid (decide_eq_false HO.out))).mono ?_
            rintro e wx ⟨rfl, rfl⟩
            have s1 : decide ((m : Int) + 1 < (m : Int) + 1) = false := decide_eq_false (by omega)
            have s2 : ¬ (m : Int) + 1 < (m : Int) + 1 := by omega
            clear z0 z1 z2
            go_wp2_with fail
            refine (claim_once_no (2 * p + 1) hO hk6 (Lib.hid (by rw [HN.out]; omega))).mono ?_
            rintro e wa ⟨rfl, hO1⟩
            have cZ := hO1.won.cell hk6
            simp only [hws] at cZ
            have hio := fun q => isopen_once (hO1.drewN q) hk6 (b := false) (Lib.hid (decide_eq_false HO.out))
            clear hO hpe cT cq
            clear hws hw
            go_wp2_with fail
            go_quiet (first | (go_at_call 19; with_reducible exact Calls.quiet_of_same (hio _)))
            have hO3 := hO1.drewN nq
            clear hio hO1
            go_wp2_with fail
            go_roundw
            case rel => exact ⟨j + 1, _, _, _, by omega, by go_num, hO3.weak⟩
            case measure => simp [intOf]; omega
    · obtain rfl : j = ss.length := by omega
      have hlt' : ¬ (ss.length : Int) < (ss.length : Int) := by omega
      have hBl := hO.but
      clear hc hO
      go_wp2_with fail
      refine (alive_any _).mono ?_
      rintro e wz ⟨rfl, hbz⟩
      have hB' : Below w.heap.size w wz := (hBl.below (Nat.le_refl _) (by simp)).trans (hbz.mono hBl.size)
      clear hBl hbz
      go_wp2_with fail
      go_ret
      exact ⟨rfl, hB'⟩
end Go.Proofs.Ytbpelcclkmmglaa
