/-
  The walk of the law OctetNumbers.
-/
import Derived.Test.YtmgklpnjcnnnbaaAlive
namespace Go.Proofs.Ytmgklpnjcnnnbaa
open Go.RowKit Oct

theorem mk_data (s : ByteArray) : (⟨s.data.toList.toArray⟩ : ByteArray) = s := by simp
theorem cat_back {a r l : List UInt8} {s : ByteArray} (h : a ++ r = l) (hs : l = s.data.toList := by rfl) : (⟨a.toArray⟩ : ByteArray) ++ ⟨r.toArray⟩ = s := by
  rw [ByteArray.mk_append_mk, h, hs, mk_data]
theorem size_mk (l : List UInt8) : (⟨l.toArray⟩ : ByteArray).size = l.length := by simp [ByteArray.size]
theorem get_app (l : List UInt8) {v : Nat} (s : ByteArray) (w : World) (hs : l.length + s.size ≤ maxLen) (h : Hid (getR (l ++ s.data.toList) = (v, s.data.toList, 0))) :
    Calls Try.prog 9 #[.string (⟨l.toArray⟩ ++ s)] w fun x w' => x = .returned (.tuple #[.int .u64 v, .string s, .int .i64 0]) ∧ Below w.heap.size w w' := by
  have hl : (⟨l.toArray⟩ ++ s : ByteArray).data.toList = l ++ s.data.toList := by rw [append_list]
  have := get_at (u := v) (r := s.data.toList) (e := 0) (⟨l.toArray⟩ ++ s) w (by rw [ByteArray.size_append, size_mk]; exact hs) (Lib.hid (by rw [hl]; exact h.out))
  rw [mk_data] at this; exact this

set_option maxRecDepth 100000 in
set_option maxHeartbeats 800000 in
theorem numbers_walk (v : Nat) (s : ByteArray) (w : World) (hv : v < 18446744073709551616) (hs : s.size ≤ maxLen) :
    Calls Try.prog 3 #[.int .u64 v, .string s] w fun e w' => e = .returned (.bool true) ∧ Below w.heap.size w w' := by
  unfold maxLen at hs
  by_cases hbig : 4096 < s.size
  · have hbig' : (4096 : Int) < (s.size : Int) := by omega
    go_enter Try.func3, Try.ntmps3
    go_wp2_with fail
    refine (alive_any _).mono ?_
    rintro x w1 ⟨rfl, hb1⟩
    go_wp2_with fail
    go_ret
    exact ⟨rfl, hb1⟩
  · have hbig' : ¬ (4096 : Int) < (s.size : Int) := by omega
    have hnl : (numL v).length ≤ 10 := numL_len10 hv
    obtain ⟨u, r, e, hr⟩ : ∃ u r e, getR s.data.toList = (u, r, e) := ⟨_, _, _, rfl⟩
    have hu : u < 18446744073709551616 := by have := getR_lt s.data.toList; rwa [hr] at this
    have hrl : r.length ≤ 4096 := by have := getR_rest s.data.toList; rw [hr] at this; simp at this; omega
    have hnu : (numL u).length ≤ 10 := numL_len10 hu
    have HR := Lib.hid hr
    clear hr
    by_cases he : e = 0
    · subst he
      have HC := Lib.hid ((getR_back HR.out).1)
      go_enter Try.func3, Try.ntmps3
      go_wp2_with fail
      refine (num_any v _ hv).mono ?_
      rintro x w1 ⟨rfl, hb1⟩
      go_wp2_with fail
      refine (get_at s _ (by unfold maxLen; omega) HR).mono ?_
      rintro x w2 ⟨rfl, hb2⟩
      go_wp2_with fail
      refine (refGet_at s _ (by unfold maxLen; omega) HR).mono ?_
      rintro x w3 ⟨rfl, hb3⟩
      go_wp2_with fail
      refine (get_app (numL v) s _ (by unfold maxLen; omega) (Lib.hid (getR_numL hv _))).mono ?_
      rintro x w4 ⟨rfl, hb4⟩
      go_wp2_with fail
      refine (refNum_any v _ hv).mono ?_
      rintro x w5 ⟨rfl, hb5⟩
      go_wp2_with fail
      refine (num_any u _ hu).mono ?_
      rintro x w6 ⟨rfl, hb6⟩
      have hcat := congrArg ByteArray.toList (cat_back HC.out)
      go_wp2_with fail
      clear hcat
      refine (alive_any _).mono ?_
      rintro x w7 ⟨rfl, hb7⟩
      have hb := below_next (below_next (below_next (below_next (below_next (below_next hb1 hb2) hb3) hb4) hb5) hb6) hb7
      clear hb1 hb2 hb3 hb4 hb5 hb6 hb7
      go_wp2_with fail
      go_ret
      exact ⟨rfl, hb⟩
    · have he' : ((e : Int) == 0) = false := by simp; omega
      have he'' : ((e : Int) != 0) = true := by simp; omega
      clear he
      go_enter Try.func3, Try.ntmps3
      go_wp2_with fail
      refine (num_any v _ hv).mono ?_
      rintro x w1 ⟨rfl, hb1⟩
      go_wp2_with fail
      refine (get_at s _ (by unfold maxLen; omega) HR).mono ?_
      rintro x w2 ⟨rfl, hb2⟩
      go_wp2_with fail
      refine (refGet_at s _ (by unfold maxLen; omega) HR).mono ?_
      rintro x w3 ⟨rfl, hb3⟩
      go_wp2_with fail
      refine (get_app (numL v) s _ (by unfold maxLen; omega) (Lib.hid (getR_numL hv _))).mono ?_
      rintro x w4 ⟨rfl, hb4⟩
      go_wp2_with fail
      refine (refNum_any v _ hv).mono ?_
      rintro x w5 ⟨rfl, hb5⟩
      go_wp2_with fail
      refine (alive_any _).mono ?_
      rintro x w7 ⟨rfl, hb7⟩
      have hb := below_next (below_next (below_next (below_next (below_next hb1 hb2) hb3) hb4) hb5) hb7
      clear hb1 hb2 hb3 hb4 hb5 hb7
      go_wp2_with fail
      go_ret
      exact ⟨rfl, hb⟩
end Go.Proofs.Ytmgklpnjcnnnbaa
