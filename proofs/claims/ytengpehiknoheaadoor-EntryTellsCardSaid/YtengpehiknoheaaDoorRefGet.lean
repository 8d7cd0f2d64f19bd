/-
  The walk of tollbarref01.Get.
-/
import Derived.Test.YtengpehiknoheaaDoorGet
import Derived.Deep.RegionHeld3
namespace Go.Proofs.YtengpehiknoheaaDoor
open Go.RowKit Oct

/-- The value of the bytes from k on, up to n, modulo 2^64. -/
def valFrom (l : List UInt8) (k n : Nat) : Nat := val ((l.take (n + 1)).drop k) % 18446744073709551616

theorem valFrom_zero (l : List UInt8) (n : Nat) : valFrom l 0 n = val (l.take (n + 1)) % 2 ^ 64 := rfl
theorem valFrom_end (l : List UInt8) (n : Nat) : valFrom l (n + 1) n = 0 := by
  unfold valFrom; rw [List.drop_eq_nil_of_le (by simp; omega)]; rfl
theorem valFrom_step (l : List UInt8) (k n : Nat) (h : k < l.length) (hk : k ≤ n) : valFrom l k n = (l[k].toNat % 128 + 128 * valFrom l (k + 1) n) % 18446744073709551616 := by
  unfold valFrom
  rw [List.drop_eq_getElem_cons (by simp; omega)]
  simp only [val, List.getElem_take]; omega

theorem lead_lt {k : Nat} {l : List UInt8} : ∀ {j : Nat}, j < lead k l → ∃ h : j < l.length, 128 ≤ l[j].toNat := by
  induction k generalizing l with
  | zero => intro j h; simp [lead] at h
  | succ k ih =>
    intro j h
    cases l with
    | nil => simp [lead] at h
    | cons b t =>
      simp only [lead] at h
      split at h
      · cases j with
        | zero => exact ⟨by simp, by simpa⟩
        | succ j =>
          obtain ⟨h1, h2⟩ := ih (l := t) (j := j) (by omega)
          exact ⟨by simp; omega, by simpa using h2⟩
      · omega
theorem lead_stop {k : Nat} {l : List UInt8} (hk : lead k l < k) (hl : lead k l < l.length) : l[lead k l].toNat < 128 := by
  induction k generalizing l with
  | zero => omega
  | succ k ih =>
    cases l with
    | nil => simp at hl
    | cons b t =>
      by_cases hb : 128 ≤ b.toNat
      · have e : lead (k + 1) (b :: t) = lead k t + 1 := by simp [lead, hb]
        simp only [e] at hk hl ⊢
        simpa using ih (l := t) (by omega) (by simpa using hl)
      · have e : lead (k + 1) (b :: t) = 0 := by simp [lead, hb]
        simp only [e]; simp; omega

theorem below_next {w wx w1 : World} (h : Below w.heap.size w wx) (k : Below wx.heap.size wx w1) : Below w.heap.size w w1 := h.trans (k.mono h.size)

set_option maxRecDepth 100000 in
set_option maxHeartbeats 800000 in
theorem refGet_any (s : ByteArray) (w : World) (hs : s.size ≤ maxLen) :
    Calls Tryd.prog 69 #[.string s] w fun e w' => e = .returned (GetV s.data.toList) ∧ Below w.heap.size w w' := by
  unfold maxLen at hs
  obtain ⟨n, hn⟩ : ∃ n, n = lead 9 s.data.toList := ⟨_, rfl⟩
  have hn9 : n ≤ 9 := hn ▸ lead_le _ _
  have hns : n ≤ s.size := by have := lead_le_len 9 s.data.toList; simp at this; omega
  have HN := Lib.hid hn
  clear hn
  go_enter Tryd.func69, Tryd.ntmps69
  go_wp2_with fail
  go_loop [5] (fun i => ∃ (k : Nat), i = .int .i64 k ∧ k ≤ n) (fun i => n - (intOf i).toNat)
  case atStart => exact ⟨0, rfl, Nat.zero_le _⟩
  case round =>
    obtain ⟨k, rfl, hk⟩ := hrel
    by_cases hlt : k < n
    · have hlt' : (k : Int) < (s.size : Int) := by omega
      have hks : k < s.size := by omega
      have h9 : (k : Int) < 9 := by omega
      have hb : (128 : Int) ≤ (s[k].toNat : Int) := by
        obtain ⟨h1, h2⟩ := lead_lt (k := 9) (l := s.data.toList) (j := k) (by rw [← HN.out]; exact hlt)
        have : s.data.toList[k] = s[k] := rfl
        rw [this] at h2; omega
      go_wp2_with fail
      go_round
      case rel => exact ⟨k + 1, by go_num, by omega⟩
      case measure => simp [intOf]; omega
    · obtain rfl : k = n := by omega
      clear hlt hk
      by_cases hend : k = s.size
      · have e1 : decide ((k : Int) < (s.size : Int)) = false := by simp; omega
        have e2 : ((k : Int) == (s.size : Int)) = true := by simp; omega
        have e3 : decide (k < s.size) = false := by simp; omega
        have HR : Hid (getR s.data.toList = (0, [], 6)) := Lib.hid (by unfold getR; rw [← HN.out, if_pos (by simpa using hend)])
        clear hend hn9 hns
        go_wp2_with fail
        go_ret3
        exact ⟨ret_get HR.out rfl rfl, Below.refl _ _⟩
      · have hks : k < s.size := by omega
        have e1 : (k : Int) < (s.size : Int) := by omega
        have e2 : ((k : Int) == (s.size : Int)) = false := by simp; omega
        have hst : k < 9 → ¬ (128 : Int) ≤ (s[k].toNat : Int) := fun h => by
          have := lead_stop (k := 9) (l := s.data.toList) (by rw [← HN.out]; exact h) (by rw [← HN.out]; simpa using hks)
          simp only [← HN.out] at this
          have h2 : s.data.toList[k] = s[k] := rfl
          rw [h2] at this; omega
        by_cases h9 : k < 9
        all_goals (first | ((have e9 : (k : Int) < 9 := (by omega)); have e128 := hst h9; clear hst) | ((have e9 : ¬ (k : Int) < 9 := (by omega)); clear hst))
        all_goals clear hend
        all_goals go_wp2_with fail
        all_goals
          go_loop [6, 7] (fun v i => ∃ (m : Int), i = .int .i64 m ∧ -1 ≤ m ∧ m ≤ k ∧ v = .int .u64 (valFrom s.data.toList (m + 1).toNat k)) (fun _ i => (intOf i + 1).toNat)
          case atStart => exact ⟨k, rfl, by omega, by omega, by rw [show ((k : Int) + 1).toNat = k + 1 by omega, valFrom_end]; rfl⟩
          case round =>
            obtain ⟨m, rfl, hm1, hm2, rfl⟩ := hrel
            by_cases hm : 0 ≤ m
            · obtain ⟨j, rfl⟩ := Int.eq_ofNat_of_zero_le hm
              have hjs : j < s.size := by omega
              have hjk : j ≤ k := by omega
              have hcc : s[j].toNat < 256 := UInt8.toNat_lt _
              have g1 : ((j : Int) + 1).toNat = j + 1 := by omega
              rw [g1]
              go_wp2_with fail
              go_round
              case rel =>
                refine ⟨(j : Int) - 1, rfl, by omega, by omega, ?_⟩
                have g2 : ((j : Int) - 1 + 1).toNat = j := by omega
                have g3 : s.data.toList[j]'(by simpa using hjs) = s[j] := rfl
                rw [g2, valFrom_step _ j k (by simpa using hjs) hjk, g3, IntKind.wrap_u64, IntKind.wrap_u64]
                congr 1; omega
              case measure => simp [intOf]
            · have hm' : ¬ (0 : Int) ≤ m := hm
              obtain rfl : m = -1 := by omega
              have g1 : ((-1 : Int) + 1).toNat = 0 := rfl
              rw [g1]
              obtain ⟨V, hV⟩ : ∃ V, V = valFrom s.data.toList 0 k := ⟨_, rfl⟩
              rw [← hV]
              have hVl : V < 18446744073709551616 := by rw [hV]; exact Nat.mod_lt _ (by omega)
              have HV := Lib.hid hV
              clear hV hm hm'
              go_wp2_with fail
              have s4 : IntKind.i64.wrap ((k : Int) + 1) = (k : Int) + 1 := IntWalk.i64_in _ (by omega)
              have s5 : ((k : Int) + 1).toNat = k + 1 := by omega
              have s6 : (0 : Int) ≤ (k : Int) + 1 := by omega
              have s7 : (k : Int) + 1 ≤ (s.size : Int) := by omega
              go_region_held3 (fun w' => Below w.heap.size w w') (first | exact (Below.refl _ _).drew | exact below_next (by assumption) hb1 | go_keep) ((go_at_call 51; refine (refNum_any _ _ hVl).mono ?_; rintro e w1 ⟨rfl, hb1⟩))
              have hB : Below w.heap.size w w1 := by assumption
              have htk : Hid ((s.extract 0 (k + 1)).toList = s.data.toList.take (k + 1)) := Lib.hid (by rw [Lib.extract_toList]; rfl)
              go_wp2_with fail
              · have hne : (!numL V == (s.extract 0 (k + 1)).toList) = true := by assumption
                have hR : getR s.data.toList = (0, [], 7) := by
                  rw [htk.out] at hne
                  have hV := HV.out
                  rw [valFrom_zero, HN.out] at hV
                  rw [HN.out] at hne
                  unfold getR
                  rw [if_neg (by rw [← HN.out]; simp; omega), ← hV, if_neg (by simpa using hne)]
                go_ret3
                exact ⟨ret_get hR rfl rfl, hB⟩
              · have hne : (!numL V == (s.extract 0 (k + 1)).toList) = false := by assumption
                have hR : Hid (getR s.data.toList = (V, s.data.toList.drop (k + 1), 0)) := Lib.hid (by
                  rw [htk.out] at hne
                  have hV := HV.out
                  rw [valFrom_zero, HN.out] at hV
                  rw [HN.out] at hne ⊢
                  unfold getR
                  rw [if_neg (by rw [← HN.out]; simp; omega), ← hV, if_pos (by simpa using hne)])
                clear hne
                go_quiet (fail)
                clear s4 s5 s6 s7
                go_wp2_with fail
                go_ret3
                exact ⟨ret_get hR.out rfl (extract_end _ _), below_drewN hB _⟩
end Go.Proofs.YtengpehiknoheaaDoor
