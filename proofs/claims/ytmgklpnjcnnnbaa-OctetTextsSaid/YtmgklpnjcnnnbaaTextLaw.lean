/-
  The walk of the law OctetTexts.
-/
import Derived.Test.YtmgklpnjcnnnbaaNumbers
namespace Go.Proofs.Ytmgklpnjcnnnbaa
open Go.RowKit Oct

theorem text_at {a : List UInt8} {e : Nat} (s : ByteArray) (w : World) (hs : s.size ≤ maxLen) (h : Hid (textR s.data.toList = (a, e))) :
    Calls Try.prog 16 #[.string s] w fun q w' => q = .returned (.tuple #[.string ⟨a.toArray⟩, .int .i64 e]) ∧ Below w.heap.size w w' := by
  have := text_any s w hs
  unfold TextV at this
  rw [h.out] at this; exact this
theorem refText_at {a : List UInt8} {e : Nat} (s : ByteArray) (w : World) (hs : s.size ≤ maxLen) (h : Hid (textR s.data.toList = (a, e))) :
    Calls Try.prog 17 #[.string s] w fun q w' => q = .returned (.tuple #[.string ⟨a.toArray⟩, .int .i64 e]) ∧ Below w.heap.size w w' := by
  have := refText_any s w hs
  unfold TextV at this
  rw [h.out] at this; exact this
theorem getText_at {a r : List UInt8} {e : Nat} (s : ByteArray) (w : World) (hs : s.size ≤ maxLen) (h : Hid (getTextR s.data.toList = (a, r, e))) :
    Calls Try.prog 18 #[.string s] w fun q w' => q = .returned (.tuple #[.string ⟨a.toArray⟩, .string ⟨r.toArray⟩, .int .i64 e]) ∧ Below w.heap.size w w' := by
  have := getText_any s w hs
  unfold GetTextV at this
  rw [h.out] at this; exact this
theorem refGetText_at {a r : List UInt8} {e : Nat} (s : ByteArray) (w : World) (hs : s.size ≤ maxLen) (h : Hid (getTextR s.data.toList = (a, r, e))) :
    Calls Try.prog 19 #[.string s] w fun q w' => q = .returned (.tuple #[.string ⟨a.toArray⟩, .string ⟨r.toArray⟩, .int .i64 e]) ∧ Below w.heap.size w w' := by
  have := refGetText_any s w hs
  unfold GetTextV at this
  rw [h.out] at this; exact this

theorem getTextR_text {l t : List UInt8} (h : l.length ≤ 4096) : getTextR ((numL l.length ++ l) ++ t) = (l, t, 0) := by
  have h1 : getR ((numL l.length ++ l) ++ t) = (l.length, l ++ t, 0) := by rw [List.append_assoc, getR_numL (by omega)]
  unfold getTextR; rw [h1]; simp [show ¬ 4096 < l.length by omega]
theorem textR_back {t x r : List UInt8} (h : getTextR t = (x, r, 0)) : textR x = (numL x.length ++ x, 0) ∧ numL x.length ++ x ++ r = t ∧ x.length ≤ 4096 ∧ x.length + r.length ≤ t.length := by
  obtain ⟨u, q, e, hr⟩ : ∃ u q e, getR t = (u, q, e) := ⟨_, _, _, rfl⟩
  unfold getTextR at h; rw [hr] at h; simp only at h
  split at h
  · simp only [Prod.mk.injEq] at h; omega
  · rename_i h0
    obtain rfl : e = 0 := by simpa using h0
    split at h
    · simp at h
    · split at h
      · simp at h
      · rename_i h1 h2
        simp only [Prod.mk.injEq] at h
        obtain ⟨rfl, rfl, -⟩ := h
        have hl : (q.take u).length = u := by rw [List.length_take]; omega
        have hb := (getR_back hr).1
        have hq := getR_rest t
        rw [hr] at hq
        refine ⟨by unfold textR; rw [if_neg (by omega)], by rw [hl, List.append_assoc, List.take_append_drop, hb], by omega, ?_⟩
        rw [List.length_take, List.length_drop]; simp at hq; omega

theorem getText_app (l : List UInt8) {s t : ByteArray} (w : World) (hs : l.length + t.size ≤ maxLen) (h : Hid (getTextR (l ++ t.data.toList) = (s.data.toList, t.data.toList, 0))) :
    Calls Try.prog 18 #[.string (⟨l.toArray⟩ ++ t)] w fun x w' => x = .returned (.tuple #[.string s, .string t, .int .i64 0]) ∧ Below w.heap.size w w' := by
  have hl : (⟨l.toArray⟩ ++ t : ByteArray).data.toList = l ++ t.data.toList := by rw [append_list]
  have := getText_at (a := s.data.toList) (r := t.data.toList) (e := 0) (⟨l.toArray⟩ ++ t) w (by rw [ByteArray.size_append, size_mk]; exact hs) (Lib.hid (by rw [hl]; exact h.out))
  rw [mk_data, mk_data] at this; exact this

theorem textR_cases (l : List UInt8) : (l.length ≤ 4096 ∧ textR l = (numL l.length ++ l, 0)) ∨ (¬ l.length ≤ 4096 ∧ textR l = ([], 5)) := by
  unfold textR; split
  · exact .inr ⟨by omega, rfl⟩
  · exact .inl ⟨by omega, rfl⟩

set_option maxRecDepth 100000 in
set_option maxHeartbeats 1600000 in
theorem texts_walk (s t : ByteArray) (w : World) (hs : s.size ≤ 140737488351232) (ht : t.size ≤ 140737488351232) :
    Calls Try.prog 5 #[.string s, .string t] w fun e w' => e = .returned (.bool true) ∧ Below w.heap.size w w' := by
  by_cases hbig : 16384 < s.size + t.size
  · have hbig' : (16384 : Int) < (s.size : Int) + (t.size : Int) := by omega
    go_enter Try.func5, Try.ntmps5
    go_wp2_with fail
    refine (alive_any _).mono ?_
    rintro q w1 ⟨rfl, hb1⟩
    go_wp2_with fail
    go_ret
    exact ⟨rfl, hb1⟩
  · have hbig' : ¬ (16384 : Int) < (s.size : Int) + (t.size : Int) := by omega
    obtain ⟨a, e, ha⟩ : ∃ a e, textR s.data.toList = (a, e) := ⟨_, _, rfl⟩
    obtain ⟨x, r, g, hr⟩ : ∃ x r g, getTextR t.data.toList = (x, r, g) := ⟨_, _, _, rfl⟩
    have HA := Lib.hid ha
    have HR := Lib.hid hr
    clear ha hr
    have HE : Hid ((s.size ≤ 4096 ∧ a = numL s.size ++ s.data.toList ∧ e = 0) ∨ e = 5) := Lib.hid (by
      rcases textR_cases s.data.toList with ⟨h1, h2⟩ | ⟨h1, h2⟩
      · rw [HA.out] at h2; simp at h1 h2; exact .inl ⟨h1, h2.1, h2.2⟩
      · rw [HA.out] at h2; simp at h2; exact .inr h2.2)
    have hd : (e = 0 ∧ a.length ≤ 5000) ∨ e = 5 := by
      rcases HE.out with ⟨h1, h2, h3⟩ | h
      · have := numL_len10 (u := s.size) (by omega)
        refine .inl ⟨h3, ?_⟩
        rw [h2, List.length_append]; simp; omega
      · exact .inr h
    have hG : g = 0 → (numL x.length).length ≤ 10 ∧ x.length + r.length ≤ 16384 ∧ Hid (textR x = (numL x.length ++ x, 0)) ∧ Hid (numL x.length ++ x ++ r = t.data.toList) := by
      rintro rfl
      obtain ⟨h1, h2, h3, h4⟩ := textR_back HR.out
      simp at h4
      exact ⟨numL_len10 (by omega), by omega, Lib.hid h1, Lib.hid h2⟩
    rcases hd with ⟨rfl, hal⟩ | rfl
    all_goals by_cases hg : g = 0
    all_goals
      first
      | (obtain ⟨g1, g2, g3, g4⟩ := hG hg; subst hg)
      | (have g1 : ((g : Int) == 0) = false := (by simp; omega)
         have g2 : ((g : Int) != 0) = true := (by simp; omega)
         clear hG hg)
    all_goals
      go_enter Try.func5, Try.ntmps5
      go_wp2_with fail
      refine (text_at s _ (by unfold maxLen; omega) HA).mono ?_
      rintro q w1 ⟨rfl, hb1⟩
      go_wp2_with fail
      refine (refText_at s _ (by unfold maxLen; omega) HA).mono ?_
      rintro q w2 ⟨rfl, hb2⟩
      go_wp2_with fail
      refine (getText_at t _ (by unfold maxLen; omega) HR).mono ?_
      rintro q w3 ⟨rfl, hb3⟩
      go_wp2_with fail
      refine (refGetText_at t _ (by unfold maxLen; omega) HR).mono ?_
      rintro q w4 ⟨rfl, hb4⟩
      have hb := below_next (below_next (below_next hb1 hb2) hb3) hb4
      clear hb1 hb2 hb3 hb4
      go_wp2_with fail
    · have HP : Hid (getTextR (a ++ t.data.toList) = (s.data.toList, t.data.toList, 0)) := Lib.hid (by
        rcases HE.out with ⟨h1, h2, -⟩ | h
        · have h3 := getTextR_text (l := s.data.toList) (t := t.data.toList) (by simpa using h1)
          rw [h2]; simpa using h3
        · omega)
      refine (getText_app a _ (by unfold maxLen; omega) HP).mono ?_
      rintro q w5 ⟨rfl, hb5⟩
      have hbx := below_next hb hb5
      clear hb hb5
      have hb := hbx
      clear hbx
      go_wp2_with fail
      refine (text_at _ _ (by rw [size_mk]; unfold maxLen; omega) (by simpa using g3)).mono ?_
      rintro q w6 ⟨rfl, hb6⟩
      have hbx := below_next hb hb6
      clear hb hb6
      have hb := hbx
      clear hbx
      have hcat := congrArg ByteArray.toList (cat_back g4.out)
      go_wp2_with fail
      clear hcat
      refine (alive_any _).mono ?_
      rintro q w7 ⟨rfl, hb7⟩
      have hb' := below_next hb hb7
      clear hb hb7
      go_wp2_with fail
      go_ret
      exact ⟨rfl, hb'⟩
    · have HP : Hid (getTextR (a ++ t.data.toList) = (s.data.toList, t.data.toList, 0)) := Lib.hid (by
        rcases HE.out with ⟨h1, h2, -⟩ | h
        · have h3 := getTextR_text (l := s.data.toList) (t := t.data.toList) (by simpa using h1)
          rw [h2]; simpa using h3
        · omega)
      refine (getText_app a _ (by unfold maxLen; omega) HP).mono ?_
      rintro q w5 ⟨rfl, hb5⟩
      have hbx := below_next hb hb5
      clear hb hb5
      have hb := hbx
      clear hbx
      go_wp2_with fail
      refine (alive_any _).mono ?_
      rintro q w7 ⟨rfl, hb7⟩
      have hb' := below_next hb hb7
      clear hb hb7
      go_wp2_with fail
      go_ret
      exact ⟨rfl, hb'⟩
    · refine (text_at _ _ (by rw [size_mk]; unfold maxLen; omega) (by simpa using g3)).mono ?_
      rintro q w6 ⟨rfl, hb6⟩
      have hbx := below_next hb hb6
      clear hb hb6
      have hb := hbx
      clear hbx
      have hcat := congrArg ByteArray.toList (cat_back g4.out)
      go_wp2_with fail
      clear hcat
      refine (alive_any _).mono ?_
      rintro q w7 ⟨rfl, hb7⟩
      have hb' := below_next hb hb7
      clear hb hb7
      go_wp2_with fail
      go_ret
      exact ⟨rfl, hb'⟩
    · refine (alive_any _).mono ?_
      rintro q w7 ⟨rfl, hb7⟩
      have hb' := below_next hb hb7
      clear hb hb7
      go_wp2_with fail
      go_ret
      exact ⟨rfl, hb'⟩
end Go.Proofs.Ytmgklpnjcnnnbaa
