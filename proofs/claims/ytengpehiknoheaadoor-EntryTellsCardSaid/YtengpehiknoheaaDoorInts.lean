/-
  The walks of octet.Int, octet.GetInt, tollbarref01.fold, Int, GetInt.
-/
import Derived.Test.YtengpehiknoheaaDoorRefGet
namespace Go.Proofs.YtengpehiknoheaaDoor
open Go.RowKit Oct

theorem ret_u64 {a b : Int} (h : a = b) : Ending.returned (.int .u64 a) = .returned (.int .u64 b) := by rw [h]

/-- A number with a sign as one without. -/
def foldN (v : Int) : Nat := if 0 ≤ v then 2 * v.toNat else 2 * (-(v + 1)).toNat + 1
/-- And back. -/
def backI (u : Nat) : Int := if u % 2 = 0 then ((u / 2 : Nat) : Int) else -((u / 2 : Nat) : Int) - 1

theorem foldN_lt {v : Int} (h1 : -9223372036854775808 ≤ v) (h2 : v ≤ 9223372036854775807) : foldN v < 18446744073709551616 := by unfold foldN; split <;> omega
theorem backI_foldN (v : Int) : backI (foldN v) = v := by unfold foldN backI; split <;> split <;> omega
theorem foldN_backI (u : Nat) : foldN (backI u) = u := by unfold foldN backI; split <;> split <;> omega
theorem backI_bounds {u : Nat} (h : u < 18446744073709551616) : -9223372036854775808 ≤ backI u ∧ backI u ≤ 9223372036854775807 := by unfold backI; split <;> omega

theorem shl1 (a : Nat) (h : a < 9223372036854775808) : IntKind.u64.wrap ((a : Int) * 2) = ((2 * a : Nat) : Int) := by rw [IntKind.wrap_u64]; omega
theorem or1 (a : Nat) (h : a < 9223372036854775808) : bits .or .u64 (IntKind.u64.wrap ((a : Int) * 2)) 1 = ((2 * a + 1 : Nat) : Int) := by
  rw [shl1 a h]
  have := bits_or_u64_nat (2 * a) 1 (by omega) (by omega)
  rw [show ((1 : Nat) : Int) = 1 from rfl] at this
  rw [this, show (2 * a) ||| 1 = 2 * a + 1 from ?_]
  have h2 := Nat.two_pow_add_eq_or_of_lt (i := 1) (b := 1) (by omega) a
  simpa using h2.symm

theorem or1' (a : Nat) (h : a < 9223372036854775808) : bits .or .u64 ((a : Int) * 2) 1 = ((2 * a + 1 : Nat) : Int) := by
  have := or1 a h
  rwa [shl1 a h, show ((2 * a : Nat) : Int) = (a : Int) * 2 by omega] at this

theorem int_any (v : Int) (w : World) (h1 : -9223372036854775808 ≤ v) (h2 : v ≤ 9223372036854775807) :
    Calls Tryd.prog 49 #[.int .i64 v] w fun e w' => e = .returned (.string ⟨(numL (foldN v)).toArray⟩) ∧ Below w.heap.size w w' := by
  have hf := foldN_lt h1 h2
  by_cases hn : v < 0
  · obtain ⟨a, ha⟩ : ∃ a : Nat, v = -(a : Int) - 1 := ⟨(-(v + 1)).toNat, by omega⟩
    subst ha
    have ha : a < 9223372036854775808 := by omega
    have HF : Hid (foldN (-(a : Int) - 1) = 2 * a + 1) := Lib.hid (by unfold foldN; split <;> omega)
    rw [HF.out] at hf ⊢
    go_enter Tryd.func49, Tryd.ntmps49
    go_wp2_with fail
    rw [or1' a ha]
    refine (num_any _ _ hf).mono ?_
    rintro e w1 ⟨rfl, hb⟩
    go_wp2_with fail
    go_ret
    exact ⟨rfl, hb⟩
  · obtain ⟨a, rfl⟩ := Int.eq_ofNat_of_zero_le (show 0 ≤ v by omega)
    have ha : a < 9223372036854775808 := by omega
    have HF : Hid (foldN (a : Int) = 2 * a) := Lib.hid (by unfold foldN; split <;> omega)
    rw [HF.out] at hf ⊢
    go_enter Tryd.func49, Tryd.ntmps49
    go_wp2_with fail
    rw [show (a : Int) * 2 = ((2 * a : Nat) : Int) by omega]
    refine (num_any _ _ hf).mono ?_
    rintro e w1 ⟨rfl, hb⟩
    go_wp2_with fail
    go_ret
    exact ⟨rfl, hb⟩

theorem fold_any (v : Int) (w : World) (h1 : -9223372036854775808 ≤ v) (h2 : v ≤ 9223372036854775807) :
    Calls Tryd.prog 66 #[.int .i64 v] w fun e w' => e = .returned (.int .u64 (foldN v)) ∧ w = w' := by
  have hf := foldN_lt h1 h2
  by_cases hn : v < 0
  · obtain ⟨a, ha⟩ : ∃ a : Nat, v = -(a : Int) - 1 := ⟨(-(v + 1)).toNat, by omega⟩
    subst ha
    have ha : a < 9223372036854775808 := by omega
    have HF : Hid (foldN (-(a : Int) - 1) = 2 * a + 1) := Lib.hid (by unfold foldN; split <;> omega)
    rw [HF.out] at hf ⊢
    go_enter Tryd.func66, Tryd.ntmps66
    go_wp2_with fail
    go_ret
    exact ⟨ret_u64 (by omega), rfl⟩
  · obtain ⟨a, rfl⟩ := Int.eq_ofNat_of_zero_le (show 0 ≤ v by omega)
    have ha : a < 9223372036854775808 := by omega
    have HF : Hid (foldN (a : Int) = 2 * a) := Lib.hid (by unfold foldN; split <;> omega)
    rw [HF.out] at hf ⊢
    go_enter Tryd.func66, Tryd.ntmps66
    go_wp2_with fail
    go_ret
    exact ⟨ret_u64 (by omega), rfl⟩

theorem refInt_any (v : Int) (w : World) (h1 : -9223372036854775808 ≤ v) (h2 : v ≤ 9223372036854775807) :
    Calls Tryd.prog 53 #[.int .i64 v] w fun e w' => e = .returned (.string ⟨(numL (foldN v)).toArray⟩) ∧ Below w.heap.size w w' := by
  have hf := foldN_lt h1 h2
  go_enter Tryd.func53, Tryd.ntmps53
  go_wp2_with fail
  refine (fold_any _ _ h1 h2).mono ?_
  rintro e w1 ⟨rfl, rfl⟩
  go_wp2_with fail
  refine (refNum_any _ _ hf).mono ?_
  rintro e w1 ⟨rfl, hb⟩
  go_wp2_with fail
  go_ret
  exact ⟨rfl, hb⟩

/-- What getR tells: the number fits; an error goes with nothing. -/
theorem getR_lt (l : List UInt8) : (getR l).1 < 18446744073709551616 := by
  unfold getR; split
  · simp
  · split
    · exact Nat.mod_lt _ (by omega)
    · simp
theorem getR_err {l : List UInt8} {u : Nat} {r : List UInt8} {e : Nat} (h : getR l = (u, r, e)) (he : e ≠ 0) : u = 0 ∧ r = [] := by
  unfold getR at h; split at h
  · simp at h; exact ⟨h.1.symm, h.2.1⟩
  · split at h
    · simp at h; omega
    · simp at h; exact ⟨h.1.symm, h.2.1⟩

theorem get_at {u : Nat} {r : List UInt8} {e : Nat} (s : ByteArray) (w : World) (hs : s.size ≤ maxLen) (h : Hid (getR s.data.toList = (u, r, e))) :
    Calls Tryd.prog 67 #[.string s] w fun x w' => x = .returned (.tuple #[.int .u64 u, .string ⟨r.toArray⟩, .int .i64 e]) ∧ Below w.heap.size w w' := by
  have := get_any s w hs
  unfold GetV at this
  rw [h.out] at this; exact this
theorem refGet_at {u : Nat} {r : List UInt8} {e : Nat} (s : ByteArray) (w : World) (hs : s.size ≤ maxLen) (h : Hid (getR s.data.toList = (u, r, e))) :
    Calls Tryd.prog 69 #[.string s] w fun x w' => x = .returned (.tuple #[.int .u64 u, .string ⟨r.toArray⟩, .int .i64 e]) ∧ Below w.heap.size w w' := by
  have := refGet_any s w hs
  unfold GetV at this
  rw [h.out] at this; exact this

theorem and1 (u : Nat) (h : u < 18446744073709551616) : bits .and .u64 (u : Int) 1 = ((u % 2 : Nat) : Int) := by
  have := bits_and_u64_nat u 1 h (by omega)
  rw [show ((1 : Nat) : Int) = 1 from rfl] at this
  rw [this, Nat.and_one_is_mod]

def GetIntV (l : List UInt8) : Value := .tuple #[.int .i64 (backI (getR l).1), .string ⟨(getR l).2.1.toArray⟩, .int .i64 (getR l).2.2]
theorem ret_getInt {l : List UInt8} {u : Nat} {r : List UInt8} {e : Nat} {a : Int} (h : getR l = (u, r, e)) (ha : a = backI u) :
    Ending.returned (.tuple #[.int .i64 a, .string ⟨r.toArray⟩, .int .i64 (e : Int)]) = .returned (GetIntV l) := by rw [GetIntV, h, ha]

theorem getInt_any (s : ByteArray) (w : World) (hs : s.size ≤ maxLen) :
    Calls Tryd.prog 68 #[.string s] w fun x w' => x = .returned (GetIntV s.data.toList) ∧ Below w.heap.size w w' := by
  obtain ⟨u, r, e, hr⟩ : ∃ u r e, getR s.data.toList = (u, r, e) := ⟨_, _, _, rfl⟩
  have hu : u < 18446744073709551616 := by have := getR_lt s.data.toList; rwa [hr] at this
  have HR := Lib.hid hr
  clear hr
  have hand := and1 u hu
  have HB : Hid (backI u = if u % 2 = 0 then (u : Int) / 2 else -((u : Int) / 2) - 1) := Lib.hid (by unfold backI; split <;> omega)
  rcases Nat.mod_two_eq_zero_or_one u with h2 | h2
  all_goals
    rw [h2] at hand
    have H2 := Lib.hid h2
    clear h2
    simp only [Int.natCast_zero, Int.natCast_one] at hand
    go_enter Tryd.func68, Tryd.ntmps68
    go_wp2_with fail
    refine (get_at s _ hs HR).mono ?_
    rintro x w1 ⟨rfl, hb⟩
    go_wp2_with fail
    go_ret3
    exact ⟨ret_getInt HR.out (by rw [HB.out, H2.out]; simp), hb⟩

theorem refGetInt_any (s : ByteArray) (w : World) (hs : s.size ≤ maxLen) :
    Calls Tryd.prog 70 #[.string s] w fun x w' => x = .returned (GetIntV s.data.toList) ∧ Below w.heap.size w w' := by
  obtain ⟨u, r, e, hr⟩ : ∃ u r e, getR s.data.toList = (u, r, e) := ⟨_, _, _, rfl⟩
  have hu : u < 18446744073709551616 := by have := getR_lt s.data.toList; rwa [hr] at this
  have HB : Hid (backI u = if u % 2 = 0 then (u : Int) / 2 else -((u : Int) / 2) - 1) := Lib.hid (by unfold backI; split <;> omega)
  by_cases he : e = 0
  · subst he
    have HR := Lib.hid hr
    clear hr
    rcases Nat.mod_two_eq_zero_or_one u with h2 | h2
    · have h2' : ((u : Int) % 2 == 0) = true := by simp; omega
      have H2 := Lib.hid h2
      clear h2
      go_enter Tryd.func70, Tryd.ntmps70
      go_wp2_with fail
      refine (refGet_at s _ hs HR).mono ?_
      rintro x w1 ⟨rfl, hb⟩
      go_wp2_with fail
      go_ret3
      exact ⟨ret_getInt HR.out (by rw [HB.out, H2.out]; simp), hb⟩
    · have h2' : ((u : Int) % 2 == 0) = false := by simp; omega
      have H2 := Lib.hid h2
      clear h2
      go_enter Tryd.func70, Tryd.ntmps70
      go_wp2_with fail
      refine (refGet_at s _ hs HR).mono ?_
      rintro x w1 ⟨rfl, hb⟩
      go_wp2_with fail
      go_ret3
      exact ⟨ret_getInt HR.out (by rw [HB.out, H2.out]; simp), hb⟩
  · obtain ⟨rfl, rfl⟩ := getR_err hr he
    have HR := Lib.hid hr
    have he' : ((e : Int) == 0) = false := by simp; omega
    have he'' : ((e : Int) != 0) = true := by simp; omega
    clear hr he
    go_enter Tryd.func70, Tryd.ntmps70
    go_wp2_with fail
    refine (refGet_at s _ hs HR).mono ?_
    rintro x w1 ⟨rfl, hb⟩
    go_wp2_with fail
    go_ret3
    exact ⟨ret_getInt HR.out rfl, hb⟩
end Go.Proofs.YtengpehiknoheaaDoor
