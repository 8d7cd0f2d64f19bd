/-
  The walks of tollbarref01.fold, Int, GetInt.
-/
import Derived.Test.YtakgcienodigpaaGreatRefGet
import Derived.Test.YtakgcienodigpaaGreatInts
namespace Go.Proofs.YtakgcienodigpaaGreat
open Go.RowKit Oct

theorem fold_any (v : Int) (w : World) (h1 : -9223372036854775808 ≤ v) (h2 : v ≤ 9223372036854775807) :
    Calls Tryz.prog 81 #[.int .i64 v] w fun e w' => e = .returned (.int .u64 (foldN v)) ∧ w = w' := by
  have hf := foldN_lt h1 h2
  by_cases hn : v < 0
  · obtain ⟨a, ha⟩ : ∃ a : Nat, v = -(a : Int) - 1 := ⟨(-(v + 1)).toNat, by omega⟩
    subst ha
    have ha : a < 9223372036854775808 := by omega
    have HF : Hid (foldN (-(a : Int) - 1) = 2 * a + 1) := Lib.hid (by unfold foldN; split <;> omega)
    rw [HF.out] at hf ⊢
    go_enter Tryz.func81, Tryz.ntmps81
    go_wp2_with fail
    go_ret
    exact ⟨ret_u64 (by omega), rfl⟩
  · obtain ⟨a, rfl⟩ := Int.eq_ofNat_of_zero_le (show 0 ≤ v by omega)
    have ha : a < 9223372036854775808 := by omega
    have HF : Hid (foldN (a : Int) = 2 * a) := Lib.hid (by unfold foldN; split <;> omega)
    rw [HF.out] at hf ⊢
    go_enter Tryz.func81, Tryz.ntmps81
    go_wp2_with fail
    go_ret
    exact ⟨ret_u64 (by omega), rfl⟩

theorem refInt_any (v : Int) (w : World) (h1 : -9223372036854775808 ≤ v) (h2 : v ≤ 9223372036854775807) :
    Calls Tryz.prog 54 #[.int .i64 v] w fun e w' => e = .returned (.string ⟨(numL (foldN v)).toArray⟩) ∧ Below w.heap.size w w' := by
  have hf := foldN_lt h1 h2
  go_enter Tryz.func54, Tryz.ntmps54
  go_wp2_with fail
  refine (fold_any _ _ h1 h2).mono ?_
  rintro e w1 ⟨rfl, rfl⟩
  go_wp2_with fail
  refine (refNum_any _ _ hf).mono ?_
  rintro e w1 ⟨rfl, hb⟩
  go_wp2_with fail
  go_ret
  exact ⟨rfl, hb⟩

theorem refGet_at {u : Nat} {r : List UInt8} {e : Nat} (s : ByteArray) (w : World) (hs : s.size ≤ maxLen) (h : Hid (getR s.data.toList = (u, r, e))) :
    Calls Tryz.prog 66 #[.string s] w fun x w' => x = .returned (.tuple #[.int .u64 u, .string ⟨r.toArray⟩, .int .i64 e]) ∧ Below w.heap.size w w' := by
  have := refGet_any s w hs
  unfold GetV at this
  rw [h.out] at this; exact this

theorem refGetInt_any (s : ByteArray) (w : World) (hs : s.size ≤ maxLen) :
    Calls Tryz.prog 85 #[.string s] w fun x w' => x = .returned (GetIntV s.data.toList) ∧ Below w.heap.size w w' := by
  obtain ⟨u, r, e, hr⟩ : ∃ u r e, getR s.data.toList = (u, r, e) := ⟨_, _, _, rfl⟩
  have hu : u < 18446744073709551616 := by have := getR_lt s.data.toList; rwa [hr] at this
  have HB : Hid (backI u = if u % 2 = 0 then (u : Int) / 2 else -((u : Int) / 2) - 1) := Lib.hid (by unfold backI; split <;> omega)
  by_cases he : e = 0
  · subst he
    have HR := Lib.hid hr
    clear hr
    rcases Nat.mod_two_eq_zero_or_one u with h2 | h2
    · have h2' : ((u : Int) % 2 == 0) = true := by simp; omega
      have H2 := Lib.hid h2
      clear h2
      go_enter Tryz.func85, Tryz.ntmps85
      go_wp2_with fail
      refine (refGet_at s _ hs HR).mono ?_
      rintro x w1 ⟨rfl, hb⟩
      go_wp2_with fail
      go_ret3
      exact ⟨ret_getInt HR.out (by rw [HB.out, H2.out]; simp), hb⟩
    · have h2' : ((u : Int) % 2 == 0) = false := by simp; omega
      have H2 := Lib.hid h2
      clear h2
      go_enter Tryz.func85, Tryz.ntmps85
      go_wp2_with fail
      refine (refGet_at s _ hs HR).mono ?_
      rintro x w1 ⟨rfl, hb⟩
      go_wp2_with fail
      go_ret3
      exact ⟨ret_getInt HR.out (by rw [HB.out, H2.out]; simp), hb⟩
  · obtain ⟨rfl, rfl⟩ := getR_err hr he
    have HR := Lib.hid hr
    have he' : ((e : Int) == 0) = false := by simp; omega
    have he'' : ((e : Int) != 0) = true := by simp; omega
    clear hr he
    go_enter Tryz.func85, Tryz.ntmps85
    go_wp2_with fail
    refine (refGet_at s _ hs HR).mono ?_
    rintro x w1 ⟨rfl, hb⟩
    go_wp2_with fail
    go_ret3
    exact ⟨ret_getInt HR.out rfl, hb⟩
end Go.Proofs.YtakgcienodigpaaGreat
