/-
  The walks of the document's Fair and Window.
-/
import Derived.Test.YtfbcaicfppommaaBPicks
namespace Go.Proofs.Ytfbcaicfppommaa
open Go.RowKit

theorem rfair_bad (s : ByteArray) {p : Int} (v : Int) (h : insB 1 255 p = false) (w : World) :
    Calls Try.prog 11 #[.string s, .int .i64 p, .int .i64 v] w fun e w' => e = .returned (.bool false) ∧ w' = w := by
  go_enter Try.func11, Try.ntmps11
  go_wp2_with fail
  refine (rin_is h _).mono ?_
  rintro e w1 ⟨rfl, rfl⟩
  go_wp2_with fail
  go_ret
  exact ⟨rfl, rfl⟩
theorem rfair_less (s : ByteArray) {p : Int} (v : Int) (h : insB 1 255 p = true) (hv : v < p) (w : World) :
    Calls Try.prog 11 #[.string s, .int .i64 p, .int .i64 v] w fun e w' => e = .returned (.bool false) ∧ w' = w := by
  have t : decide (v < p) = true := decide_eq_true hv
  go_enter Try.func11, Try.ntmps11
  go_wp2_with fail
  refine (rin_is h _).mono ?_
  rintro e w1 ⟨rfl, rfl⟩
  go_wp2_with fail
  go_ret
  exact ⟨rfl, rfl⟩
theorem rfair_long (s : ByteArray) {p : Int} (v : Int) (h : insB 1 255 p = true) (hv : p ≤ v) (hs : (s.size : Int) < v) (hs2 : s.size ≤ 1000) (hb : v ≤ 9223372036854775807) (w : World) :
    Calls Try.prog 11 #[.string s, .int .i64 p, .int .i64 v] w fun e w' => e = .returned (.bool true) ∧ w' = w := by
  have t : decide (v < p) = false := decide_eq_false (by omega)
  have t2 : ¬ v ≤ (s.size : Int) := by omega
  have ew : wrap64 (0 + v) = v := IntWalk.wrap64_in _ (by have := insB_iff.1 h; omega) |>.trans (by omega)
  go_enter Try.func11, Try.ntmps11
  go_wp2_with fail
  refine (rin_is h _).mono ?_
  rintro e w1 ⟨rfl, rfl⟩
  go_wp2_with fail
  go_loop [7] (fun fv => fv = .int .i64 0) (fun _ => 0)
  case atStart => rfl
  case round =>
    subst hrel
    go_wp2_with fail
    go_ret
    exact ⟨rfl, rfl⟩
set_option maxHeartbeats 3200000 in
theorem rfair_short (s : ByteArray) (p v : Nat) (h1 : 1 ≤ p) (h2 : p ≤ 255) (hv : p ≤ v) (hs : v ≤ s.size) (hs2 : s.size ≤ 1000) (w : World) :
    Calls Try.prog 11 #[.string s, .int .i64 (p : Int), .int .i64 (v : Int)] w fun e w' => e = .returned (.bool (fairB (wk s p) p v)) ∧ w' = w := by
  have h : insB 1 255 (p : Int) = true := insB_iff.2 (by omega)
  have t : decide ((v : Int) < (p : Int)) = false := decide_eq_false (by omega)
  have HL := Lib.hid (wk_len s p)
  go_enter Try.func11, Try.ntmps11
  go_wp2_with fail
  refine (rin_is h _).mono ?_
  rintro e w1 ⟨rfl, rfl⟩
  clear h
  go_wp2_with fail
  go_loop [7] (fun fv => ∃ f : Nat, f + v ≤ s.size + 1 ∧ fv = .int .i64 (f : Int) ∧ Hid (∀ g k, g < f → k < p → hasK (wk s p) k g v = true)) (fun fv => s.size + 1 - (intOf fv).toNat)
  case atStart => exact ⟨0, by omega, rfl, Lib.hid fun g k hg _ => by omega⟩
  case round =>
    obtain ⟨f, hf, rfl, HF⟩ := hrel
    by_cases hlt : f + v ≤ s.size
    · have hlt' : (f : Int) + (v : Int) ≤ (s.size : Int) := by omega
      have f0 : (0 : Int) ≤ (f : Int) := by omega
      go_wp2_with fail
      go_loop [8] (fun kv => ∃ k : Nat, k ≤ p ∧ kv = .int .i64 (k : Int) ∧ Hid (∀ i, i < k → hasK (wk s p) i f v = true)) (fun kv => p - (intOf kv).toNat)
      case atStart => exact ⟨0, Nat.zero_le _, rfl, Lib.hid fun i hi => by omega⟩
      case round =>
        obtain ⟨k, hk, rfl, HK⟩ := hrel
        by_cases hkp : k < p
        · have hkp' : (k : Int) < (p : Int) := by omega
          have k0 : (0 : Int) ≤ (k : Int) := by omega
          go_wp2_with fail
          go_loop [9, 10] (fun bv iv => ∃ j : Nat, j ≤ v ∧ bv = .bool (hasK (wk s p) k f j) ∧ iv = .int .i64 ((f : Int) + (j : Int))) (fun _ iv => f + v - (intOf iv).toNat)
          case atStart => exact ⟨0, Nat.zero_le _, rfl, by go_num⟩
          case round =>
            obtain ⟨j, hj, rfl, rfl⟩ := hrel
            by_cases hjv : j < v
            · have hjv' : (f : Int) + (j : Int) < (f : Int) + (v : Int) := by omega
              have HN := Lib.hid (hasK_next (wk s p) k f j)
              cases hb : hasK (wk s p) k f j
              · obtain ⟨i, hi⟩ : ∃ i, i = f + j := ⟨_, rfl⟩
                have his : i < s.size := by omega
                have hic : (f : Int) + (j : Int) = (i : Int) := by omega
                rw [hic] at hjv' ⊢
                obtain ⟨c, hc⟩ : ∃ c, c = (s[i]'his).toNat % p := ⟨_, rfl⟩
                have ec : (wrap64 ((s[i]'his).toNat : Int)).tmod (p : Int) = (c : Int) := by rw [hc]; exact pick_mod _ _
                have hW := wk_at s p i his
                rw [← hc] at hW
                rw [hb, ← hi, hW] at HN
                have HI := Lib.hid hi
                clear hc hi hW hic
                by_cases e : c = k
                · subst e
                  have te : ((c : Int) == (c : Int)) = true := by simp
                  have his' : (i : Int) < (s.size : Int) := by omega
                  have i0 : (0 : Int) ≤ (i : Int) := by omega
                  clear hb
                  go_wp2_with fail
                  go_round
                  case rel =>
                    have hI := HI.out
                    exact ⟨j + 1, by omega, by rw [HN.out]; simp, by simp; omega⟩
                  case measure => simp [intOf]; omega
                · have te : ((c : Int) == (k : Int)) = false := by simp; omega
                  have his' : (i : Int) < (s.size : Int) := by omega
                  have i0 : (0 : Int) ≤ (i : Int) := by omega
                  have HN : Hid (hasK (wk s p) k f (j + 1) = false) := Lib.hid (by rw [HN.out]; simp [e])
                  clear hb e
                  go_wp2_with fail
                  go_round
                  case rel =>
                    have hI := HI.out
                    exact ⟨j + 1, by omega, by rw [HN.out], by simp; omega⟩
                  case measure => simp [intOf]; omega
              · rw [hb] at HN
                have HN : Hid (hasK (wk s p) k f (j + 1) = true) := Lib.hid (by rw [HN.out]; rfl)
                clear hb
                go_wp2_with fail
                go_round
                case rel => exact ⟨j + 1, by omega, by rw [HN.out], by simp; omega⟩
                case measure => simp [intOf]; omega
            · have hj2 : j = v := by omega
              subst hj2
              have hjv' : ¬ (f : Int) + (j : Int) < (f : Int) + (j : Int) := by omega
              cases hb : hasK (wk s p) k f j
              · have HE : Hid (fairB (wk s p) p j = false) := Lib.hid (fairB_not.2 ⟨f, k, by rw [wk_len]; exact hlt, hkp, hasK_not.1 hb⟩)
                clear hb
                go_wp2_with fail
                go_ret
                exact ⟨ret_b HE.out.symm, rfl⟩
              · have HK2 : Hid (∀ i, i < k + 1 → hasK (wk s p) i f j = true) := Lib.hid fun i hi => by
                  by_cases e : i = k
                  · subst e; exact hb
                  · exact HK.out i (by omega)
                clear hb
                go_wp2_with fail
                go_round
                case rel => exact ⟨k + 1, by omega, by go_num, HK2⟩
                case measure => simp [intOf]; omega
        · have hk2 : k = p := by omega
          have hkp' : ¬ (k : Int) < (p : Int) := by omega
          have HF2 : Hid (∀ g i, g < f + 1 → i < p → hasK (wk s p) i g v = true) := Lib.hid fun g i hg hi => by
            by_cases e : g = f
            · subst e; exact HK.out i (by omega)
            · exact HF.out g i (by omega) hi
          clear hk2
          go_wp2_with fail
          go_round
          case rel => exact ⟨f + 1, by omega, by go_num, HF2⟩
          case measure => simp [intOf]; omega
    · have hlt' : ¬ (f : Int) + (v : Int) ≤ (s.size : Int) := by omega
      have HE : Hid (fairB (wk s p) p v = true) := Lib.hid (fairB_iff.2 fun g k hg hk => HF.out g k (by rw [wk_len] at hg; omega) hk)
      clear HF
      go_wp2_with fail
      go_ret
      exact ⟨ret_b HE.out.symm, rfl⟩
theorem win_ge (s : ByteArray) (p : Nat) : p ≤ winV s p := Nat.le_max_left _ _
theorem win_le (s : ByteArray) (p : Nat) : winV s p ≤ max p (s.size + 1) := by
  have := gap_le (wk s p) p
  rw [wk_len] at this
  unfold winV; omega
theorem rfair_any (s : ByteArray) (p : Nat) (v : Int) (h1 : 1 ≤ p) (h2 : p ≤ 255) (hs : s.size ≤ 1000) (hb : v ≤ 9223372036854775807) (w : World) :
    Calls Try.prog 11 #[.string s, .int .i64 (p : Int), .int .i64 v] w fun e w' => e = .returned (.bool (decide ((winV s p : Int) ≤ v))) ∧ w' = w := by
  have h : insB 1 255 (p : Int) = true := insB_iff.2 (by omega)
  have hge := win_ge s p
  have hle := win_le s p
  by_cases hv : v < (p : Int)
  · rw [decide_eq_false (by omega)]
    exact rfair_less s v h hv w
  by_cases hl : (s.size : Int) < v
  · rw [decide_eq_true (by omega)]
    exact rfair_long s v h (by omega) hl hs hb w
  obtain ⟨u, rfl⟩ : ∃ u : Nat, v = (u : Int) := ⟨v.toNat, by omega⟩
  have e : decide ((winV s p : Int) ≤ (u : Int)) = fairB (wk s p) p u := by
    rw [fair_gap h1]
    rw [Bool.eq_iff_iff]
    simp only [decide_eq_true_eq]
    unfold winV; omega
  rw [e]
  exact rfair_short s p u h1 h2 (by omega) (by omega) hs w
theorem rwindow_bad (s : ByteArray) {p : Int} (h : insB 1 255 p = false) (w : World) :
    Calls Try.prog 13 #[.string s, .int .i64 p] w fun e w' => e = .returned (.int .i64 0) ∧ w' = w := by
  go_enter Try.func13, Try.ntmps13
  go_wp2_with fail
  refine (rin_is h _).mono ?_
  rintro e w1 ⟨rfl, rfl⟩
  go_wp2_with fail
  go_ret
  exact ⟨rfl, rfl⟩
set_option maxHeartbeats 800000 in
theorem rwindow_any (s : ByteArray) (p : Nat) (h1 : 1 ≤ p) (h2 : p ≤ 255) (hs : s.size ≤ 1000) (w : World) :
    Calls Try.prog 13 #[.string s, .int .i64 (p : Int)] w fun e w' => e = .returned (.int .i64 (winV s p : Int)) ∧ w' = w := by
  have h : insB 1 255 (p : Int) = true := insB_iff.2 (by omega)
  have HG := Lib.hid (win_ge s p)
  have HL := Lib.hid (win_le s p)
  have hfa := fun v hb w => rfair_any s p v h1 h2 hs hb w
  generalize winV s p = g at HG HL hfa ⊢
  go_enter Try.func13, Try.ntmps13
  go_wp2_with fail
  refine (rin_is h _).mono ?_
  rintro e w1 ⟨rfl, rfl⟩
  clear h
  go_wp2_with fail
  go_loop [5] (fun uv => ∃ u : Nat, u ≤ 1255 ∧ uv = .int .i64 (u : Int) ∧ Hid (p ≤ u ∧ u ≤ g ∧ (u = p ∨ u ≤ s.size + 1))) (fun uv => 1300 - (intOf uv).toNat)
  case atStart => exact ⟨p, by omega, rfl, Lib.hid ⟨Nat.le_refl _, HG.out, .inl rfl⟩⟩
  case round =>
    obtain ⟨u, hu, rfl, HU⟩ := hrel
    by_cases hlt : u ≤ s.size
    · have hlt' : (u : Int) ≤ (s.size : Int) := by omega
      have u0 : (0 : Int) ≤ (u : Int) := by omega
      have hf := hfa (u : Int) (by omega)
      by_cases hg : g ≤ u
      · have hf2 : decide ((g : Int) ≤ (u : Int)) = true := decide_eq_true (by omega)
        rw [hf2] at hf
        have HE : Hid (u = g) := Lib.hid (by have := HU.out; omega)
        clear hf2 hg hfa
        go_wp2_with fail
        refine (hf _).mono ?_
        rintro e w2 ⟨rfl, rfl⟩
        clear hf
        go_wp2_with fail
        go_ret
        exact ⟨ret_i (by rw [HE.out]), rfl⟩
      · have hf2 : decide ((g : Int) ≤ (u : Int)) = false := decide_eq_false (by omega)
        rw [hf2] at hf
        have HE : Hid (p ≤ u + 1 ∧ u + 1 ≤ g ∧ (u + 1 = p ∨ u + 1 ≤ s.size + 1)) := Lib.hid (by have := HU.out; omega)
        clear hf2 hg hfa HU
        go_wp2_with fail
        refine (hf _).mono ?_
        rintro e w2 ⟨rfl, rfl⟩
        clear hf
        go_wp2_with fail
        go_round
        case rel => exact ⟨u + 1, by omega, by go_num, HE⟩
        case measure => simp [intOf]; omega
    · have hlt' : ¬ (u : Int) ≤ (s.size : Int) := by omega
      have HE : Hid (g = max p (s.size + 1)) := Lib.hid (by have := HU.out; have := HL.out; omega)
      clear hfa HU
      go_wp2_with fail
      all_goals go_ret
      all_goals exact ⟨ret_i (by rw [HE.out]; omega), rfl⟩
end Go.Proofs.Ytfbcaicfppommaa
