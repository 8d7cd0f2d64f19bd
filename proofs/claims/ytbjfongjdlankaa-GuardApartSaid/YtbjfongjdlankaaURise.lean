/-
  The walk of guard.rise.
-/
import Derived.Test.YtbjfongjdlankaaUBase
namespace Go.Proofs.Ytbjfongjdlankaa
open Go.RowKit

theorem drop_at {xs : List Int} {j : Nat} (h : j < xs.length) : xs.drop j = atI xs j :: xs.drop (j + 1) := by
  rw [atI_of h]; exact List.drop_eq_getElem_cons h
theorem rises_step {n : Nat} {xs : List Int} {p : Int} {j : Nat} (h : j < xs.length) : risesFrom n p (xs.drop j) = (decide (atI xs j < (n : Int)) && decide (p < atI xs j) && risesFrom n (atI xs j) (xs.drop (j + 1))) := by
  rw [drop_at h]; rfl
theorem rises_end {n : Nat} {xs : List Int} {p : Int} {j : Nat} (h : xs.length ≤ j) : risesFrom n p (xs.drop j) = true := by
  rw [List.drop_eq_nil_of_le h]; rfl

set_option maxRecDepth 100000 in
theorem rise_any {G L P Q B base n : Nat} {a : Option Addr} {xs : List Int} (cap : Nat) (w : World) (c0 : w.cell? ⟨G, 0, none⟩ = some (.pointer (some ⟨L, 0, none⟩))) (hL : Lks w L P Q B base n) (h : RowA w a xs) (hl : xs.length ≤ 4096) :
    Calls Try.prog 36 #[.pointer (some ⟨G, 0, none⟩), .slice a xs.length cap] w fun e w' => e = .returned (.bool (rises n xs)) ∧ w' = w := by
  have hlen := tlen_any w hL
  have hn := hL.most
  clear hL
  go_enter Try.func36, Try.ntmps36
  go_wp2_with fail
  go_step3
  go_wp2_with fail
  go_step3
  go_wp2_with fail
  go_loop [5, 6, 11] (fun pv gv iv => ∃ (j : Nat) (p : Int), j ≤ xs.length ∧ pv = .int .i64 p ∧ gv = .int .i64 (j : Int) ∧ iv = .int .i64 (j : Int) ∧ Hid (rises n xs = risesFrom n p (xs.drop j))) (fun _ _ iv => xs.length - (intOf iv).toNat)
  case atStart => exact ⟨0, -1, Nat.zero_le _, rfl, rfl, rfl, Lib.hid rfl⟩
  case round =>
    obtain ⟨j, p, hj, rfl, rfl, rfl, HR⟩ := hrel
    by_cases hlt : j < xs.length
    · have hlt' : (j : Int) < (xs.length : Int) := by omega
      have he : ((j : Int) == (xs.length : Int)) = false := by simp; omega
      obtain ⟨b, off, rfl, hc⟩ := h (by omega)
      have hcell := hc j hlt
      clear hc h
      have HS := Lib.hid (rises_step (n := n) (p := p) hlt)
      obtain ⟨x, hx⟩ : ∃ x, x = atI xs j := ⟨_, rfl⟩
      rw [← hx] at hcell HS
      clear hx
      by_cases h1 : (n : Int) ≤ x
      · have t1 : decide ((n : Int) ≤ x) = true := decide_eq_true h1
        have HF : Hid (rises n xs = false) := Lib.hid (by rw [HR.out, HS.out, decide_eq_false (by omega)]; rfl)
        clear hlt
        go_wp2_with fail
        refine hlen.mono ?_
        rintro e w' ⟨rfl, rfl⟩
        go_wp2_with fail
        rw [Exit.noGoto_ret]
        go_ret
        exact ⟨by rw [HF.out]; rfl, rfl⟩
      · have t1 : decide ((n : Int) ≤ x) = false := decide_eq_false h1
        by_cases h2 : x ≤ p
        · have t2 : decide (x ≤ p) = true := decide_eq_true h2
          have HF : Hid (rises n xs = false) := Lib.hid (by rw [HR.out, HS.out, decide_eq_true (by omega), decide_eq_false (by omega)]; rfl)
          clear hlt
          go_wp2_with fail
          refine hlen.mono ?_
          rintro e w' ⟨rfl, rfl⟩
          go_wp2_with fail
          rw [Exit.noGoto_ret]
          go_ret
          exact ⟨by rw [HF.out]; rfl, rfl⟩
        · have t2 : decide (x ≤ p) = false := decide_eq_false h2
          have HF : Hid (rises n xs = risesFrom n x (xs.drop (j + 1))) := Lib.hid (by rw [HR.out, HS.out, decide_eq_true (by omega), decide_eq_true (by omega)]; rfl)
          go_wp2_with fail
          refine hlen.mono ?_
          rintro e w' ⟨rfl, rfl⟩
          go_wp2_with fail
          go_round
          case rel => exact ⟨j + 1, x, by omega, rfl, by go_num, by go_num, HF⟩
          case measure => simp [intOf]; omega
    · have hlt' : ¬ (j : Int) < (xs.length : Int) := by omega
      obtain rfl : j = xs.length := by omega
      have HF : Hid (rises n xs = true) := Lib.hid (by rw [HR.out, rises_end (Nat.le_refl _)])
      have he : ((xs.length : Int) == (xs.length : Int)) = true := by simp
      clear h hlen
      go_wp2_with fail
      first | rw [Exit.noGoto_ret] | skip
      go_ret
      exact ⟨by rw [HF.out]; rfl, rfl⟩
end Go.Proofs.Ytbjfongjdlankaa
