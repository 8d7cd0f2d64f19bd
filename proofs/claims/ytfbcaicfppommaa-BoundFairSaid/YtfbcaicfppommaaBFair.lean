/-
  The walk of the law BoundFair.
-/
import Derived.Test.YtfbcaicfppommaaBAlive
namespace Go.Proofs.Ytfbcaicfppommaa
open Go.RowKit

theorem fair_big (s : ByteArray) (p w0 m f t : Int) (hp : 0 ≤ p ∧ p < 256) (hs : 150 < s.size) (w : World) :
    Calls Try.prog 5 #[.string s, .int .u8 p, .int .u8 w0, .int .u8 m, .int .u8 f, .int .u8 t] w fun e w' => e = .returned (.bool true) ∧ Below w.heap.size w w' := by
  have hl : (150 : Int) < (s.size : Int) := by omega
  have hp0 := hp.1
  have hp1 := hp.2
  clear hp
  go_enter Try.func5, Try.ntmps5
  go_wp2_with fail
  refine (alive_any _).mono ?_
  rintro e w1 ⟨rfl, hb⟩
  go_wp2_with fail
  go_ret
  exact ⟨rfl, hb.below (Nat.le_refl _) (by simp)⟩

theorem part_size (s : ByteArray) {a b : Nat} (hb : b ≤ s.size) : (s.extract a b).size = b - a := by
  rw [ByteArray.size_extract]; omega
theorem part_gap (s : ByteArray) {a b n : Nat} (hab : a ≤ b) (hb : b ≤ s.size) (hn : 1 ≤ n) : winV (s.extract a b) n ≤ winV s n := by
  have hl : (wk (s.extract a b) n).length = b - a := by rw [wk_len, part_size s hb]
  have h : gap (wk (s.extract a b) n) n ≤ gap (wk s n) n := by
    refine gap_part hn a (fun j hj => ?_) (.inr (by rw [hl, wk_len]; omega))
    rw [hl] at hj
    unfold wk
    rw [List.getElem?_map, List.getElem?_map, Array.getElem?_toList, Array.getElem?_toList, ByteArray.data_extract, Array.getElem?_extract, if_pos (by have : s.data.size = s.size := rfl; omega)]
  unfold winV; omega
set_option maxHeartbeats 3200000 in
theorem fair_law (s : ByteArray) (p w0 m f t : Int) (hp : 0 ≤ p ∧ p < 256) (hw : 0 ≤ w0 ∧ w0 < 256) (hm : 0 ≤ m ∧ m < 256) (hf : 0 ≤ f ∧ f < 256) (ht : 0 ≤ t ∧ t < 256) (hs : s.size ≤ 150) (w : World) :
    Calls Try.prog 5 #[.string s, .int .u8 p, .int .u8 w0, .int .u8 m, .int .u8 f, .int .u8 t] w fun e w' => e = .returned (.bool true) ∧ Below w.heap.size w w' := by
  have hl : ¬ (150 : Int) < (s.size : Int) := by omega
  obtain ⟨n, hn⟩ : ∃ n : Nat, (n : Int) = 1 + p % 8 := ⟨(1 + p % 8).toNat, by omega⟩
  obtain ⟨v, hv⟩ : ∃ v : Nat, (v : Int) = (n : Int) + w0 % 30 := ⟨((n : Int) + w0 % 30).toNat, by omega⟩
  have n1 : 1 ≤ n := by omega
  have n8 : n ≤ 8 := by omega
  have v1 : n ≤ v := by omega
  have v8 : v ≤ 37 := by omega
  have hp0 := hp.1
  have hp1 := hp.2
  have hw0 := hw.1
  have hw1 := hw.2
  go_enter Try.func5, Try.ntmps5
  go_wp2_with fail
  rw [← hn, ← hv]
  clear hn hv hp0 hp1 hw0 hw1 hp hw
  obtain ⟨tr, htr⟩ : ∃ tr : ByteArray, tr = ⟨(turnL n 100).toArray⟩ := ⟨_, rfl⟩
  have hR := round_any n 100 n1 (by omega) (by omega) w
  rw [← htr] at hR
  have hts : tr.size = 100 := by rw [htr]; exact (Array.size_eq_length_toList).trans (turnL_len n 100)
  have htsI : (tr.size : Int) = 100 := by omega
  have hwin : winV tr n = n := by
    have := turn_gap (n := 100) n1 (by omega : n ≤ 255)
    rw [← htr] at this
    unfold winV; omega
  have hF1 := fun w => fair_any tr n (n : Int) n1 (by omega) (by omega) w
  have hW1 := fun w => window_any tr n n1 (by omega) (by omega) w
  rw [hwin, decide_eq_true (Int.le_refl _)] at hF1
  rw [hwin] at hW1
  clear htr hwin hts
  refine hR.mono ?_
  rintro e w1 ⟨rfl, hb⟩
  have hB := hb
  clear hb hR
  go_wp2_with fail
  refine (hF1 _).mono ?_
  rintro e w2 ⟨rfl, hb⟩
  have hB := hB.next hb
  clear hb hF1
  go_wp2_with fail
  refine (hW1 _).mono ?_
  rintro e w3 ⟨rfl, hb⟩
  have hB := hB.next hb
  clear hb hW1
  obtain ⟨a, ha⟩ : ∃ a : Nat, (if (s.size : Int) < f then (s.size : Int) else f) = (a : Int) := ⟨(if (s.size : Int) < f then (s.size : Int) else f).toNat, by split <;> omega⟩
  obtain ⟨u, hu⟩ : ∃ u : Nat, (if (s.size : Int) < t then (s.size : Int) else t) = (u : Int) := ⟨(if (s.size : Int) < t then (s.size : Int) else t).toNat, by split <;> omega⟩
  obtain ⟨b, hb⟩ : ∃ b : Nat, (if u < a then (a : Int) else (u : Int)) = (b : Int) := ⟨if u < a then a else u, by split <;> rfl⟩
  have has : a ≤ s.size := by split at ha <;> omega
  have hbs : b ≤ s.size := by split at hu <;> split at hb <;> omega
  have hab : a ≤ b := by split at hb <;> omega
  have hws := win_le s n
  have hwn := win_ge s n
  have hF := fun v hb w => fair_any s n v n1 (by omega) (by omega) w
  go_wp2_with fail
  clear ha hu hb
  have hW := fun w => window_any s n n1 (by omega) (by omega) w
  have hF := fun v w => hF v (by omega) w
  by_cases hg : winV s n ≤ v
  · have hF0 := fun w => hF (v : Int) w
    rw [decide_eq_true (by omega)] at hF0
    have hF1 := fun w => hF ((v : Int) + m) w
    rw [decide_eq_true (by omega)] at hF1
    have hm0 := hm.1
    have hm1 := hm.2
    have has' : (a : Int) ≤ (s.size : Int) := by omega
    have hbs' : (b : Int) ≤ (s.size : Int) := by omega
    have hab' : (a : Int) ≤ (b : Int) := by omega
    have hv' : (v : Int) ≤ 37 := by omega
    refine (hF0 _).mono ?_
    rintro e w4 ⟨rfl, hb⟩
    have hB := hB.next hb
    clear hb hF0
    go_wp2_with fail
    refine (hF1 _).mono ?_
    rintro e w5 ⟨rfl, hb⟩
    have hB := hB.next hb
    clear hb hF1
    go_wp2_with fail
    have hP := fun w => fair_any (s.extract a b) n (v : Int) n1 (by omega) (by rw [part_size s hbs]; omega) w
    have hpg := part_gap s hab hbs n1
    rw [decide_eq_true (by omega)] at hP
    clear hpg
    refine (hP _).mono ?_
    rintro e w6 ⟨rfl, hb⟩
    have hB := hB.next hb
    clear hb hP
    go_wp2_with fail
    refine (hW _).mono ?_
    rintro e w7 ⟨rfl, hb⟩
    have hB := hB.next hb
    clear hb hW
    have hFg := fun w => hF (winV s n : Int) w
    rw [decide_eq_true (Int.le_refl _)] at hFg
    have hFm := fun w => hF ((winV s n : Int) - 1) w
    rw [decide_eq_false (by omega)] at hFm
    have hgI : (winV s n : Int) ≤ 1000 := by omega
    have hgn : (n : Int) ≤ (winV s n : Int) := by omega
    generalize winV s n = g at hF hFg hFm hws hwn hgI hgn hg ⊢
    clear hF
    go_wp2_with fail
    all_goals
      refine (hFg _).mono ?_
      rintro e w8 ⟨rfl, hb⟩
      have hB := hB.next hb
      clear hb hFg
      by_cases he : g = n
      · have he2 : ((g : Int) == (n : Int)) = true := by simp [he]
        clear he hFm
        go_wp2_with fail
        refine (alive_any _).mono ?_
        rintro e w9 ⟨rfl, hb⟩
        have hB := hB.next hb
        clear hb
        go_wp2_with fail
        go_ret
        exact ⟨rfl, hB.below (Nat.le_refl _) (by simp)⟩
      · have he2 : ((g : Int) == (n : Int)) = false := by simp; omega
        clear he
        go_wp2_with fail
        refine (hFm _).mono ?_
        rintro e w9 ⟨rfl, hb⟩
        have hB := hB.next hb
        clear hb hFm
        go_wp2_with fail
        refine (alive_any _).mono ?_
        rintro e w10 ⟨rfl, hb⟩
        have hB := hB.next hb
        clear hb
        go_wp2_with fail
        go_ret
        exact ⟨rfl, hB.below (Nat.le_refl _) (by simp)⟩
  · have hF0 := fun w => hF (v : Int) w
    rw [decide_eq_false (by omega)] at hF0
    refine (hF0 _).mono ?_
    rintro e w4 ⟨rfl, hb⟩
    have hB := hB.next hb
    clear hb hF0
    go_wp2_with fail
    refine (hW _).mono ?_
    rintro e w7 ⟨rfl, hb⟩
    have hB := hB.next hb
    clear hb hW
    have hFg := fun w => hF (winV s n : Int) w
    rw [decide_eq_true (Int.le_refl _)] at hFg
    have hFm := fun w => hF ((winV s n : Int) - 1) w
    rw [decide_eq_false (by omega)] at hFm
    have hgI : (winV s n : Int) ≤ 1000 := by omega
    have hgn : (n : Int) ≤ (winV s n : Int) := by omega
    generalize winV s n = g at hF hFg hFm hws hwn hgI hgn hg ⊢
    clear hF
    go_wp2_with fail
    all_goals
      refine (hFg _).mono ?_
      rintro e w8 ⟨rfl, hb⟩
      have hB := hB.next hb
      clear hb hFg
      by_cases he : g = n
      · have he2 : ((g : Int) == (n : Int)) = true := by simp [he]
        clear he hFm
        go_wp2_with fail
        refine (alive_any _).mono ?_
        rintro e w9 ⟨rfl, hb⟩
        have hB := hB.next hb
        clear hb
        go_wp2_with fail
        go_ret
        exact ⟨rfl, hB.below (Nat.le_refl _) (by simp)⟩
      · have he2 : ((g : Int) == (n : Int)) = false := by simp; omega
        clear he
        go_wp2_with fail
        refine (hFm _).mono ?_
        rintro e w9 ⟨rfl, hb⟩
        have hB := hB.next hb
        clear hb hFm
        go_wp2_with fail
        refine (alive_any _).mono ?_
        rintro e w10 ⟨rfl, hb⟩
        have hB := hB.next hb
        clear hb
        go_wp2_with fail
        go_ret
        exact ⟨rfl, hB.below (Nat.le_refl _) (by simp)⟩
end Go.Proofs.Ytfbcaicfppommaa
