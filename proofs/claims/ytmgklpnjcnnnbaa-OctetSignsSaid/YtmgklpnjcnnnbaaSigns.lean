/-
  The walk of the law OctetSigns.
-/
import Derived.Test.YtmgklpnjcnnnbaaNumbers
namespace Go.Proofs.Ytmgklpnjcnnnbaa
open Go.RowKit Oct

theorem getInt_at {u : Nat} {x : Int} {r : List UInt8} {e : Nat} (s : ByteArray) (w : World) (hs : s.size ≤ maxLen) (h : Hid (getR s.data.toList = (u, r, e))) (hx : Hid (x = backI u)) :
    Calls Try.prog 13 #[.string s] w fun q w' => q = .returned (.tuple #[.int .i64 x, .string ⟨r.toArray⟩, .int .i64 e]) ∧ Below w.heap.size w w' := by
  have := getInt_any s w hs
  unfold GetIntV at this
  rw [h.out] at this; rw [hx.out]; exact this
theorem refGetInt_at {u : Nat} {x : Int} {r : List UInt8} {e : Nat} (s : ByteArray) (w : World) (hs : s.size ≤ maxLen) (h : Hid (getR s.data.toList = (u, r, e))) (hx : Hid (x = backI u)) :
    Calls Try.prog 14 #[.string s] w fun q w' => q = .returned (.tuple #[.int .i64 x, .string ⟨r.toArray⟩, .int .i64 e]) ∧ Below w.heap.size w w' := by
  have := refGetInt_any s w hs
  unfold GetIntV at this
  rw [h.out] at this; rw [hx.out]; exact this
theorem getInt_app (l : List UInt8) {v : Int} (s : ByteArray) (w : World) (hs : l.length + s.size ≤ maxLen) (h : Hid (getR (l ++ s.data.toList) = (foldN v, s.data.toList, 0))) :
    Calls Try.prog 13 #[.string (⟨l.toArray⟩ ++ s)] w fun x w' => x = .returned (.tuple #[.int .i64 v, .string s, .int .i64 0]) ∧ Below w.heap.size w w' := by
  have hl : (⟨l.toArray⟩ ++ s : ByteArray).data.toList = l ++ s.data.toList := by rw [append_list]
  have := getInt_at (u := foldN v) (x := v) (r := s.data.toList) (e := 0) (⟨l.toArray⟩ ++ s) w (by rw [ByteArray.size_append, size_mk]; exact hs) (Lib.hid (by rw [hl]; exact h.out)) (Lib.hid (backI_foldN v).symm)
  rw [mk_data] at this; exact this

set_option maxRecDepth 100000 in
set_option maxHeartbeats 800000 in
theorem signs_walk (v : Int) (s : ByteArray) (w : World) (hv1 : -9223372036854775808 ≤ v) (hv2 : v ≤ 9223372036854775807) (hs : s.size ≤ maxLen) :
    Calls Try.prog 4 #[.int .i64 v, .string s] w fun e w' => e = .returned (.bool true) ∧ Below w.heap.size w w' := by
  unfold maxLen at hs
  by_cases hbig : 4096 < s.size
  · have hbig' : (4096 : Int) < (s.size : Int) := by omega
    go_enter Try.func4, Try.ntmps4
    go_wp2_with fail
    refine (alive_any _).mono ?_
    rintro x w1 ⟨rfl, hb1⟩
    go_wp2_with fail
    go_ret
    exact ⟨rfl, hb1⟩
  · have hbig' : ¬ (4096 : Int) < (s.size : Int) := by omega
    have hf := foldN_lt hv1 hv2
    have hnl : (numL (foldN v)).length ≤ 10 := numL_len10 hf
    obtain ⟨u, r, e, hr⟩ : ∃ u r e, getR s.data.toList = (u, r, e) := ⟨_, _, _, rfl⟩
    have hu : u < 18446744073709551616 := by have := getR_lt s.data.toList; rwa [hr] at this
    have hrl : r.length ≤ 4096 := by have := getR_rest s.data.toList; rw [hr] at this; simp at this; omega
    have hnu : (numL u).length ≤ 10 := numL_len10 hu
    have HR := Lib.hid hr
    clear hr
    obtain ⟨x, hx⟩ : ∃ x, x = backI u := ⟨_, rfl⟩
    obtain ⟨x1, x2⟩ := backI_bounds hu
    rw [← hx] at x1 x2
    have HX := Lib.hid hx
    clear hx
    have HI : Hid (numL (foldN x) = numL u) := Lib.hid (by rw [HX.out, foldN_backI])
    by_cases he : e = 0
    · subst he
      have HC := Lib.hid ((getR_back HR.out).1)
      go_enter Try.func4, Try.ntmps4
      go_wp2_with fail
      refine (int_any v _ hv1 hv2).mono ?_
      rintro q w1 ⟨rfl, hb1⟩
      go_wp2_with fail
      refine (getInt_at s _ (by unfold maxLen; omega) HR HX).mono ?_
      rintro q w2 ⟨rfl, hb2⟩
      go_wp2_with fail
      refine (refGetInt_at s _ (by unfold maxLen; omega) HR HX).mono ?_
      rintro q w3 ⟨rfl, hb3⟩
      go_wp2_with fail
      refine (getInt_app (numL (foldN v)) s _ (by unfold maxLen; omega) (Lib.hid (getR_numL hf _))).mono ?_
      rintro q w4 ⟨rfl, hb4⟩
      go_wp2_with fail
      refine (refInt_any v _ hv1 hv2).mono ?_
      rintro q w5 ⟨rfl, hb5⟩
      go_wp2_with fail
      refine (int_at _ x1 x2 HI).mono ?_
      rintro q w6 ⟨rfl, hb6⟩
      have hcat := congrArg ByteArray.toList (cat_back HC.out)
      go_wp2_with fail
      clear hcat
      refine (alive_any _).mono ?_
      rintro q w7 ⟨rfl, hb7⟩
      have hb := below_next (below_next (below_next (below_next (below_next (below_next hb1 hb2) hb3) hb4) hb5) hb6) hb7
      clear hb1 hb2 hb3 hb4 hb5 hb6 hb7
      go_wp2_with fail
      go_ret
      exact ⟨rfl, hb⟩
    · have he' : ((e : Int) == 0) = false := by simp; omega
      have he'' : ((e : Int) != 0) = true := by simp; omega
      clear he
      go_enter Try.func4, Try.ntmps4
      go_wp2_with fail
      refine (int_any v _ hv1 hv2).mono ?_
      rintro q w1 ⟨rfl, hb1⟩
      go_wp2_with fail
      refine (getInt_at s _ (by unfold maxLen; omega) HR HX).mono ?_
      rintro q w2 ⟨rfl, hb2⟩
      go_wp2_with fail
      refine (refGetInt_at s _ (by unfold maxLen; omega) HR HX).mono ?_
      rintro q w3 ⟨rfl, hb3⟩
      go_wp2_with fail
      refine (getInt_app (numL (foldN v)) s _ (by unfold maxLen; omega) (Lib.hid (getR_numL hf _))).mono ?_
      rintro q w4 ⟨rfl, hb4⟩
      go_wp2_with fail
      refine (refInt_any v _ hv1 hv2).mono ?_
      rintro q w5 ⟨rfl, hb5⟩
      go_wp2_with fail
      refine (alive_any _).mono ?_
      rintro q w7 ⟨rfl, hb7⟩
      have hb := below_next (below_next (below_next (below_next (below_next hb1 hb2) hb3) hb4) hb5) hb7
      clear hb1 hb2 hb3 hb4 hb5 hb7
      go_wp2_with fail
      go_ret
      exact ⟨rfl, hb⟩
end Go.Proofs.Ytmgklpnjcnnnbaa
