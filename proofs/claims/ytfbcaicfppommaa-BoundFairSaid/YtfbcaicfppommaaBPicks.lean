/-
  The walks of workers, without, Window and Fair.
-/
import Derived.Test.YtfbcaicfppommaaBMap
namespace Go.Proofs.Ytfbcaicfppommaa
open Go.RowKit

theorem workers_is {p : Int} {b : Bool} (h : insB 1 255 p = b) (w : World) :
    Calls Try.prog 26 #[.int .i64 p] w fun e w' => e = .returned (.bool b) ∧ But [] w w' := by
  have hW := within_any 1 255
  go_enter Try.func26, Try.ntmps26
  go_wp2_with fail
  refine (hW _).mono ?_
  rintro e w1 ⟨rfl, hP, hQ, hb⟩
  go_wp2_with fail
  refine (in_is h _ _ _ hP hQ).mono ?_
  rintro e w2 ⟨rfl, rfl⟩
  clear hP hQ hW
  go_wp2_with fail
  go_ret
  exact ⟨rfl, hb⟩

theorem pick_mod (b : UInt8) (p : Nat) : (wrap64 (b.toNat : Int)).tmod (p : Int) = ((b.toNat % p : Nat) : Int) := by
  have := b.toNat_lt
  rw [IntWalk.wrap64_in _ (by omega), ← Int.ofNat_tmod]
theorem wk_at (s : ByteArray) (p i : Nat) (h : i < s.size) : (wk s p)[i]? = some ((s[i]'h).toNat % p) := by
  unfold wk
  rw [List.getElem?_map, Array.getElem?_toList, Array.getElem?_eq_getElem (by simpa using h)]
  rfl
theorem max_if {m i g : Nat} (h : g ≤ i) : (if (m : Int) < (i : Int) - (g : Int) then (i : Int) - (g : Int) else (m : Int)) = ((max m (i - g) : Nat) : Int) := by split <;> omega
theorem run_made (x : Int) (w : World) : (Instr.makeMap 52 (some (.int .i64 x))).run Try.prog w = .ok (.map (some w.heap.size)) (w.alloc (.map #[] 0)) := by kernel_rfl
set_option maxHeartbeats 1600000 in
theorem without_any (s : ByteArray) (p : Nat) (h1 : 1 ≤ p) (h2 : p ≤ 255) (hs : s.size ≤ 1000) (w : World) :
    Calls Try.prog 28 #[.string s, .int .i64 (p : Int)] w fun e w' => e = .returned (.int .i64 (gap (wk s p) p : Int)) ∧ But [] w w' := by
  have hM := mapAt_made w
  have hB : But [] w (w.alloc (.map #[] 0)) := (But.refl _ _).alloc _
  have hmm := run_made
  go_enter Try.func28, Try.ntmps28
  go_wp2_with fail
  generalize w.alloc (.map #[] 0) = w0 at hM hB ⊢
  obtain ⟨M, hMM⟩ : ∃ M, M = w.heap.size := ⟨_, rfl⟩
  rw [← hMM] at hM ⊢
  have HM : Hid (M = w.heap.size) := Lib.hid hMM
  have h0 := Lib.hid (seen_none (wk s p) h1)
  have HL := Lib.hid (wk_len s p)
  clear hMM hmm
  go_loopw [4, 13] (fun mv iv wr => ∃ (i m c : Nat) (g : Nat → Nat), i ≤ s.size ∧ mv = .int .i64 (m : Int) ∧ iv = .int .i64 (i : Int) ∧ Hid (m ≤ i ∧ c ≤ i ∧ Seen (wk s p) p i m g) ∧ MapAt wr M g c ∧ But [] w wr) (fun _ iv _ => s.size - (intOf iv).toNat)
  case atStart => exact ⟨0, 0, 0, _, Nat.zero_le _, rfl, rfl, Lib.hid ⟨Nat.le_refl _, Nat.le_refl _, h0.out⟩, hM, hB⟩
  case round =>
    clear hM hB h0
    obtain ⟨i, m, c, g, hi, rfl, rfl, HS, hM, hB⟩ := hrel
    by_cases hlt : i < s.size
    · have hlt' : (i : Int) < (s.size : Int) := by omega
      have i0 : (0 : Int) ≤ (i : Int) := by omega
      obtain ⟨k, hk⟩ : ∃ k, k = (s[i]'hlt).toNat % p := ⟨_, rfl⟩
      have hkp : k < p := hk ▸ Nat.mod_lt _ h1
      have ek : (wrap64 ((s[i]'hlt).toNat : Int)).tmod (p : Int) = (k : Int) := by rw [hk]; exact pick_mod _ _
      have hW := wk_at s p i hlt
      rw [← hk] at hW
      clear hk
      have hl := hM.look (i := k) (by omega)
      have hgi := HS.out.2.2.le k
      have HSt := Lib.hid (HS.out.2.2.step hW hkp)
      obtain ⟨wn, cn, hrun, hMn, hcn, hbn⟩ := hM.store (by have := HS.out.2.1; unfold maxLen; omega) (i := k) (by omega) (i + 1)
      have hBn := hB.own hbn (by have := HM.out; simp; omega)
      have HMn := Lib.hid hMn
      have HBn := Lib.hid hBn
      have HCn := Lib.hid hcn
      have ei : ((i + 1 : Nat) : Int) = (i : Int) + 1 := by omega
      rw [ei] at hrun
      generalize g k = gk at hl hgi HSt
      have HMI : Hid (m ≤ i ∧ c ≤ i) := Lib.hid ⟨HS.out.1, HS.out.2.1⟩
      clear ei HS hM hB hMn hBn hcn hbn hW
      go_wp2_with fail
      go_roundw
      case rel =>
        have h3 := HMI.out
        have h4 := HCn.out
        exact ⟨i + 1, max m (i - gk), cn, _, by omega, by rw [max_if hgi], by go_num, Lib.hid ⟨by omega, by omega, HSt.out⟩, HMn.out, HBn.out⟩
      case measure => simp [intOf]; omega
    · obtain rfl : i = s.size := by omega
      have hlt' : ¬ (s.size : Int) < (s.size : Int) := by omega
      have HB := Lib.hid hB
      have HC := Lib.hid (HS.out.2.2)
      have HMI := Lib.hid (HS.out.1)
      clear hB HS
      go_wp2_with fail
      go_loop [4, 35] (fun mv iv => ∃ (k m : Nat), k ≤ p ∧ mv = .int .i64 (m : Int) ∧ iv = .int .i64 (k : Int) ∧ Hid (m ≤ s.size ∧ Seen (wk s p) p s.size m g ∧ ∀ j, j < k → s.size - g j ≤ m)) (fun _ iv => p - (intOf iv).toNat)
      case atStart => exact ⟨0, m, Nat.zero_le _, rfl, rfl, Lib.hid ⟨HMI.out, HC.out, fun j hj => by omega⟩⟩
      case round =>
        clear HMI HC
        obtain ⟨k, m, hk, rfl, rfl, HS⟩ := hrel
        by_cases hkp : k < p
        · have hkp' : (k : Int) < (p : Int) := by omega
          have k0 : (0 : Int) ≤ (k : Int) := by omega
          have hl := hM.look (i := k) (by omega)
          have hgi := HS.out.2.1.le k
          have HSt := Lib.hid (HS.out.2.1.rest hkp)
          have HR : Hid (∀ j, j < k + 1 → s.size - g j ≤ max m (s.size - g k)) := Lib.hid fun j hj => by
            by_cases e : j = k
            · subst e; omega
            · have := HS.out.2.2 j (by omega); omega
          have HMI := Lib.hid HS.out.1
          generalize g k = gk at hl hgi HSt HR
          clear HS hM
          go_wp2_with fail
          go_round
          case rel =>
            have h3 := HMI.out
            exact ⟨k + 1, max m (s.size - gk), by omega, by rw [max_if hgi], by go_num, Lib.hid ⟨by omega, HSt.out, HR.out⟩⟩
          case measure => simp [intOf]; omega
        · obtain rfl : k = p := by omega
          have hkp' : ¬ (k : Int) < (k : Int) := by omega
          have HE : Hid (gap (wk s k) k = m) := Lib.hid (Seen.gap h1 (by rw [wk_len]; exact HS.out.2.1) (by rw [wk_len]; exact HS.out.2.2))
          clear HS hM
          go_wp2_with fail
          go_ret
          exact ⟨ret_i (by rw [HE.out]), HB.out⟩

/-- What Window tells. -/
def winV (s : ByteArray) (p : Nat) : Nat := max p (gap (wk s p) p + 1)
theorem win_if (s : ByteArray) (p : Nat) : (if (p : Int) < (gap (wk s p) p : Int) + 1 then (gap (wk s p) p : Int) + 1 else (p : Int)) = (winV s p : Int) := by unfold winV; split <;> omega
theorem window_any (s : ByteArray) (p : Nat) (h1 : 1 ≤ p) (h2 : p ≤ 255) (hs : s.size ≤ 1000) (w : World) :
    Calls Try.prog 12 #[.string s, .int .i64 (p : Int)] w fun e w' => e = .returned (.int .i64 (winV s p : Int)) ∧ But [] w w' := by
  have hw := workers_is (p := (p : Int)) (b := true) (insB_iff.2 (by omega)) w
  have HE := Lib.hid (win_if s p)
  have hg : gap (wk s p) p ≤ 1000 := by have := gap_le (wk s p) p; rw [wk_len] at this; omega
  have hwo := fun w => without_any s p h1 h2 hs w
  generalize gap (wk s p) p = g at HE hg hwo
  go_enter Try.func12, Try.ntmps12
  go_wp2_with fail
  refine hw.mono ?_
  rintro e w1 ⟨rfl, hb⟩
  go_wp2_with fail
  refine (hwo _).mono ?_
  rintro e w2 ⟨rfl, hb2⟩
  have hB := hb.next hb2
  clear hb hb2 hw hwo
  go_wp2_with fail
  all_goals go_ret
  all_goals exact ⟨ret_i (by have h9 := HE.out; split at h9 <;> omega), hB⟩
theorem window_bad (s : ByteArray) {p : Int} (h : insB 1 255 p = false) (w : World) :
    Calls Try.prog 12 #[.string s, .int .i64 p] w fun e w' => e = .returned (.int .i64 0) ∧ But [] w w' := by
  have hw := workers_is h w
  go_enter Try.func12, Try.ntmps12
  go_wp2_with fail
  refine hw.mono ?_
  rintro e w1 ⟨rfl, hb⟩
  clear hw
  go_wp2_with fail
  go_ret
  exact ⟨rfl, hb⟩
theorem fair_any (s : ByteArray) (p : Nat) (v : Int) (h1 : 1 ≤ p) (h2 : p ≤ 255) (hs : s.size ≤ 1000) (w : World) :
    Calls Try.prog 10 #[.string s, .int .i64 (p : Int), .int .i64 v] w fun e w' => e = .returned (.bool (decide ((winV s p : Int) ≤ v))) ∧ But [] w w' := by
  have hw := workers_is (p := (p : Int)) (b := true) (insB_iff.2 (by omega)) w
  have hwo := fun w => window_any s p h1 h2 hs w
  generalize winV s p = g at hwo ⊢
  go_enter Try.func10, Try.ntmps10
  go_wp2_with fail
  refine hw.mono ?_
  rintro e w1 ⟨rfl, hb⟩
  go_wp2_with fail
  refine (hwo _).mono ?_
  rintro e w2 ⟨rfl, hb2⟩
  have hB := hb.next hb2
  clear hb hb2 hw hwo
  go_wp2_with fail
  go_ret
  exact ⟨rfl, hB⟩
theorem fair_bad (s : ByteArray) {p : Int} (v : Int) (h : insB 1 255 p = false) (w : World) :
    Calls Try.prog 10 #[.string s, .int .i64 p, .int .i64 v] w fun e w' => e = .returned (.bool false) ∧ But [] w w' := by
  have hw := workers_is h w
  go_enter Try.func10, Try.ntmps10
  go_wp2_with fail
  refine hw.mono ?_
  rintro e w1 ⟨rfl, hb⟩
  clear hw
  go_wp2_with fail
  go_ret
  exact ⟨rfl, hb⟩
end Go.Proofs.Ytfbcaicfppommaa
