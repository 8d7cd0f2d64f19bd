/-
  The walk of octet.Get.
-/
import Derived.Test.YtengpehiknoheaaDoorRefNum
import Derived.Deep.QuietTactic
import Derived.BigQuiet
import Derived.IntWalk
import Derived.Lib.Strings
namespace Go.Proofs.YtengpehiknoheaaDoor
open Go.RowKit Oct

def wrongB (k c : Nat) : Bool := decide ((k = 9 ∧ 1 < c) ∨ (0 < k ∧ c = 0))

theorem ret_bool {a b : Bool} (h : a = b) : Ending.returned (.bool a) = .returned (.bool b) := by rw [h]

theorem wrong_any (b k : Nat) (s : ByteArray) (w : World) (hk : k < s.size) (hs : s.size ≤ maxLen) (hc : w.cell? ⟨b, 0, none⟩ = some (.string s)) :
    Calls Tryd.prog 76 #[.int .i64 k, .pointer (some ⟨b, 0, none⟩)] w fun e w' => e = .returned (.bool (wrongB k s[k].toNat)) ∧ w = w' := by
  unfold maxLen at hs
  have hcc : s[k].toNat < 256 := UInt8.toNat_lt _
  by_cases h9 : k = 9
  · subst h9
    by_cases h1 : 1 < s[9].toNat
    · have h1' : (1 : Int) < (s[9].toNat : Int) := by omega
      have hv : Hid (wrongB 9 s[9].toNat = true) := Lib.hid (by simp [wrongB]; omega)
      go_enter Tryd.func76, Tryd.ntmps76
      go_wp2
      go_ret
      exact ⟨ret_bool hv.out.symm, rfl⟩
    · have h1' : decide ((1 : Int) < (s[9].toNat : Int)) = false := by simp; omega
      by_cases h0 : s[9].toNat = 0
      · have hv : Hid (wrongB 9 s[9].toNat = true) := Lib.hid (by simp [wrongB]; omega)
        have h0' : ((s[9].toNat : Int) == 0) = true := by simp [h0]
        clear h0
        go_enter Tryd.func76, Tryd.ntmps76
        go_wp2
        go_ret
        exact ⟨ret_bool hv.out.symm, rfl⟩
      · have hv : Hid (wrongB 9 s[9].toNat = false) := Lib.hid (by simp [wrongB]; omega)
        have h0' : ((s[9].toNat : Int) == 0) = false := by simp; omega
        clear h0
        go_enter Tryd.func76, Tryd.ntmps76
        go_wp2
        go_ret
        exact ⟨ret_bool hv.out.symm, rfl⟩
  · have h9' : ((k : Int) == 9) = false := by simp; omega
    by_cases hp : 0 < k
    · have hp' : (0 : Int) < (k : Int) := by omega
      by_cases h0 : s[k].toNat = 0
      · have hv : Hid (wrongB k s[k].toNat = true) := Lib.hid (by simp [wrongB]; omega)
        have h0' : ((s[k].toNat : Int) == 0) = true := by simp [h0]
        clear h0 h9
        go_enter Tryd.func76, Tryd.ntmps76
        go_wp2
        go_ret
        exact ⟨ret_bool hv.out.symm, rfl⟩
      · have hv : Hid (wrongB k s[k].toNat = false) := Lib.hid (by simp [wrongB]; omega)
        have h0' : ((s[k].toNat : Int) == 0) = false := by simp; omega
        clear h0 h9
        go_enter Tryd.func76, Tryd.ntmps76
        go_wp2
        go_ret
        exact ⟨ret_bool hv.out.symm, rfl⟩
    · have hp' : ¬ (0 : Int) < (k : Int) := by omega
      have hv : Hid (wrongB k s[k].toNat = false) := Lib.hid (by simp [wrongB]; omega)
      clear h9
      go_enter Tryd.func76, Tryd.ntmps76
      go_wp2
      go_ret
      exact ⟨ret_bool hv.out.symm, rfl⟩

theorem wrong_val (r : Bool) (b k : Nat) (s : ByteArray) (w : World) (hk : k < s.size) (hs : s.size ≤ maxLen) (hc : w.cell? ⟨b, 0, none⟩ = some (.string s)) (hr : Hid (wrongB k s[k].toNat = r)) :
    Calls Tryd.prog 76 #[.int .i64 k, .pointer (some ⟨b, 0, none⟩)] w fun e w' => e = .returned (.bool r) ∧ w = w' := by
  have h := wrong_any b k s w hk hs hc
  rw [hr.out] at h; exact h

/-- The answer of Get, as a value. -/
def GetV (s : List UInt8) : Value := .tuple #[.int .u64 (getR s).1, .string ⟨(getR s).2.1.toArray⟩, .int .i64 (getR s).2.2]

theorem or_shift (acc c k : Nat) (ha : acc < 2 ^ (7 * k)) (hc : c * 2 ^ (7 * k) < 18446744073709551616) (hk : k ≤ 9) :
    bits .or .u64 (acc : Int) (IntKind.u64.wrap ((c : Int) * 2 ^ (7 * k))) = ((acc + c * 2 ^ (7 * k) : Nat) : Int) := by
  have e1 : (c : Int) * 2 ^ (7 * k) = ((c * 2 ^ (7 * k) : Nat) : Int) := by simp
  have e2 : IntKind.u64.wrap ((c * 2 ^ (7 * k) : Nat) : Int) = ((c * 2 ^ (7 * k) : Nat) : Int) := IntWalk.u64_in _ ⟨by omega, by omega⟩
  have hp : 2 ^ (7 * k) ≤ 2 ^ (7 * 9) := Nat.pow_le_pow_right (by omega) (by omega)
  rw [e1, e2, bits_or_u64_nat _ _ (by omega) hc, Nat.or_comm, Nat.mul_comm c, ← Nat.two_pow_add_eq_or_of_lt ha, Nat.add_comm]

/-- A last byte. -/
theorem step_last {l : List UInt8} {k acc : Nat} {c : UInt8} {t : List UInt8} (hd : l.drop k = c :: t) (hw : wrongB k c.toNat = false) (h128 : c.toNat < 128) (HG : getG 0 0 l = getG k acc (l.drop k)) :
    getR l = (acc + c.toNat * 2 ^ (7 * k), t, 0) := by
  rw [← getG_eq, HG, hd, getG, if_neg (by simpa [wrongB] using hw), if_pos h128]
theorem step_more {l : List UInt8} {k acc : Nat} {c : UInt8} {t : List UInt8} (hd : l.drop k = c :: t) (hw : wrongB k c.toNat = false) (h128 : ¬ c.toNat < 128) (HG : getG 0 0 l = getG k acc (l.drop k)) :
    getG 0 0 l = getG (k + 1) (acc + (c.toNat - 128) * 2 ^ (7 * k)) t := by
  rw [HG, hd, getG, if_neg (by simpa [wrongB] using hw), if_neg h128]
theorem step_wrong {l : List UInt8} {k acc : Nat} {c : UInt8} {t : List UInt8} (hd : l.drop k = c :: t) (hw : wrongB k c.toNat = true) (HG : getG 0 0 l = getG k acc (l.drop k)) :
    getR l = (0, [], 7) := by
  rw [← getG_eq, HG, hd, getG, if_pos (by simpa [wrongB] using hw)]
theorem step_end {l : List UInt8} {k acc : Nat} (hd : l.drop k = []) (HG : getG 0 0 l = getG k acc (l.drop k)) : getR l = (0, [], 6) := by
  rw [← getG_eq, HG, hd, getG]
theorem last_fits {k : Nat} {c : UInt8} (hw : wrongB k c.toNat = false) (h128 : c.toNat < 128) (hk : k ≤ 9) : c.toNat * 2 ^ (7 * k) < 18446744073709551616 := by
  simp [wrongB] at hw
  by_cases h9 : k = 9
  · subst h9; have := hw.1 rfl; omega
  · have : 2 ^ (7 * k) ≤ 2 ^ (7 * 8) := Nat.pow_le_pow_right (by omega) (by omega)
    have := Nat.mul_le_mul (show c.toNat ≤ 127 by omega) this
    omega
theorem more_fits {k acc : Nat} {c : UInt8} (hw : wrongB k c.toNat = false) (h128 : ¬ c.toNat < 128) (hk : k ≤ 9) (ha : acc < 2 ^ (7 * k)) :
    k ≤ 8 ∧ (c.toNat - 128) * 2 ^ (7 * k) < 18446744073709551616 ∧ acc + (c.toNat - 128) * 2 ^ (7 * k) < 2 ^ (7 * (k + 1)) := by
  have hcc : c.toNat < 256 := UInt8.toNat_lt _
  have h8 : k ≤ 8 := by
    simp [wrongB] at hw
    by_cases h9 : k = 9
    · subst h9; have := hw.1 rfl; omega
    · omega
  have hp := pow7_succ k
  have h1 : (c.toNat - 128) * 2 ^ (7 * k) ≤ 127 * 2 ^ (7 * k) := Nat.mul_le_mul_right _ (by omega)
  have : 2 ^ (7 * k) ≤ 2 ^ (7 * 8) := Nat.pow_le_pow_right (by omega) (by omega)
  refine ⟨h8, by omega, by omega⟩
theorem drop_byte (s : ByteArray) (k : Nat) (h : k < s.size) : s.data.toList.drop k = s[k] :: s.data.toList.drop (k + 1) := by
  rw [List.drop_eq_getElem_cons (by simpa using h)]; rfl
theorem extract_end (s : ByteArray) (k : Nat) : s.extract k s.size = ⟨(s.data.toList.drop k).toArray⟩ := by
  rw [Lib.extract_eq, List.take_of_length_le (by simp)]
theorem ret_get {a : Int} {v : Nat} {s : ByteArray} {r : List UInt8} {e : Nat} {l : List UInt8} (h : getR l = (v, r, e)) (h1 : a = (v : Int)) (h2 : s = ⟨r.toArray⟩) :
    Ending.returned (.tuple #[.int .u64 a, .string s, .int .i64 (e : Int)]) = .returned (GetV l) := by rw [GetV, h, h1, h2]

set_option maxRecDepth 100000 in
set_option maxHeartbeats 800000 in
theorem get_any (s : ByteArray) (w : World) (hs : s.size ≤ maxLen) :
    Calls Tryd.prog 67 #[.string s] w fun e w' => e = .returned (GetV s.data.toList) ∧ Below w.heap.size w w' := by
  have hmf : ∀ (fn : Fn) (first cap : Array Value) (w : World), (Instr.makeFunc fn first cap).run Tryd.prog w = .ok (.func fn first cap) w := fun _ _ _ _ => rfl
  unfold maxLen at hs
  go_enter Tryd.func67, Tryd.ntmps67
  go_wp2_with fail
  go_step3
  go_wp2_with fail
  go_step3
  go_wp2_with fail
  go_loop [2, 4, 11] (fun v e i => ∃ (k acc : Nat), v = .int .u64 acc ∧ e = .int .i64 6 ∧ i = .int .i64 k ∧ k ≤ s.size ∧ k ≤ 9 ∧ Hid (acc < 2 ^ (7 * k)) ∧ Hid (getG 0 0 s.data.toList = getG k acc (s.data.toList.drop k))) (fun _ _ i => s.size - (intOf i).toNat)
  case atStart => exact ⟨0, 0, rfl, rfl, rfl, Nat.zero_le _, Nat.zero_le _, Lib.hid (by omega), rfl⟩
  case round =>
    obtain ⟨k, acc, rfl, rfl, rfl, hk, hk9, hacc, HG⟩ := hrel
    by_cases hlt : k < s.size
    · have hlt' : (k : Int) < (s.size : Int) := by omega
      have hcell : (w.alloc (.cells #[.string s] 9)).cell? ⟨w.heap.size, 0, none⟩ = some (.string s) := by
        rw [World.cell?_alloc_at _ _ _ _ rfl]; rfl
      have hcc : s[k].toNat < 256 := UInt8.toNat_lt _
      cases hw : wrongB k s[k].toNat
      · have hw' := Lib.hid hw
        clear hw
        by_cases h128 : s[k].toNat < 128
        · have h128' : (s[k].toNat : Int) < 128 := by omega
          go_wp2_with (go_at_call 76; refine (wrong_val false w.heap.size k s _ hlt (by unfold maxLen; omega) hcell hw').mono ?_; rintro e w' ⟨rfl, rfl⟩)
          have s1 : IntKind.i64.wrap (7 * (k : Int)) = 7 * (k : Int) := IntWalk.i64_in _ (by omega)
          have s2 : (0 : Int) ≤ 7 * (k : Int) := by omega
          have s3 : (7 * (k : Int)).toNat = 7 * k := by omega
          have s4 : IntKind.i64.wrap ((k : Int) + 1) = (k : Int) + 1 := IntWalk.i64_in _ (by omega)
          have s5 : ((k : Int) + 1).toNat = k + 1 := by omega
          have s6 : (0 : Int) ≤ (k : Int) + 1 := by omega
          have s7 : (k : Int) + 1 ≤ (s.size : Int) := by omega
          have s8 : 7 * (k : Int) ≤ 64 := by omega
          go_quiet (fail)
          clear s1 s2 s3 s4 s5 s6 s7 s8
          go_wp2_with fail
          rw [Exit.noGoto_ret]
          go_ret3
          exact ⟨ret_get (step_last (drop_byte s k hlt) hw'.out h128 HG.out) (or_shift _ _ _ hacc.out (last_fits hw'.out h128 hk9) hk9) (extract_end _ _), below_drewN ((Below.refl _ _).alloc (Nat.le_refl _) _) _⟩
        · have h128' : ¬ (s[k].toNat : Int) < 128 := by omega
          obtain ⟨h8, f1, f2⟩ := more_fits hw'.out h128 hk9 hacc.out
          have F1 := Lib.hid f1
          have F2 := Lib.hid f2
          clear f1 f2
          go_wp2_with (go_at_call 76; refine (wrong_val false w.heap.size k s _ hlt (by unfold maxLen; omega) hcell hw').mono ?_; rintro e w' ⟨rfl, rfl⟩)
          go_round
          case rel =>
            have HG' := (step_more (drop_byte s k hlt) hw'.out h128 HG.out)
            refine ⟨k + 1, acc + (s[k].toNat - 128) * 2 ^ (7 * k), ?_, rfl, by go_num, by omega, by omega, F2, Lib.hid HG'⟩
            have hsub : (s[k].toNat : Int) - 128 = ((s[k].toNat - 128 : Nat) : Int) := by omega
            rw [hsub, or_shift _ _ _ hacc.out F1.out hk9]
          case measure => simp [intOf]; omega
      · have hw' := Lib.hid hw
        clear hw
        go_wp2_with (go_at_call 76; refine (wrong_val true w.heap.size k s _ hlt (by unfold maxLen; omega) hcell hw').mono ?_; rintro e w' ⟨rfl, rfl⟩)
        rw [Exit.noGoto_ret]
        go_ret3
        exact ⟨ret_get (step_wrong (drop_byte s k hlt) hw'.out HG.out) rfl rfl, (Below.refl _ _).alloc (Nat.le_refl _) _⟩
    · have hlt' : ¬ (k : Int) < (s.size : Int) := by omega
      go_wp2_with fail
      go_ret3
      exact ⟨ret_get (step_end (List.drop_eq_nil_of_le (by simp; omega)) HG.out) rfl rfl, (Below.refl _ _).alloc (Nat.le_refl _) _⟩
end Go.Proofs.YtengpehiknoheaaDoor
