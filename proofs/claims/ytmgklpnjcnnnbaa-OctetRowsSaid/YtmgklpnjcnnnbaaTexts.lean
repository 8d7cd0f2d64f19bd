/-
  The walks of octet.Text, GetText and of the document's.
-/
import Derived.Test.YtmgklpnjcnnnbaaInts
namespace Go.Proofs.Ytmgklpnjcnnnbaa
open Go.RowKit Oct

/-- The bytes of a text; the error. -/
def textR (l : List UInt8) : List UInt8 × Nat := if 4096 < l.length then ([], 5) else (numL l.length ++ l, 0)
/-- The text whose bytes l begins with; what is behind it; the error. -/
def getTextR (l : List UInt8) : List UInt8 × List UInt8 × Nat :=
  if (getR l).2.2 ≠ 0 then ([], [], (getR l).2.2)
  else if 4096 < (getR l).1 then ([], [], 5)
  else if (getR l).2.1.length < (getR l).1 then ([], [], 6)
  else ((getR l).2.1.take (getR l).1, (getR l).2.1.drop (getR l).1, 0)

def TextV (l : List UInt8) : Value := .tuple #[.string ⟨(textR l).1.toArray⟩, .int .i64 (textR l).2]
def GetTextV (l : List UInt8) : Value := .tuple #[.string ⟨(getTextR l).1.toArray⟩, .string ⟨(getTextR l).2.1.toArray⟩, .int .i64 (getTextR l).2.2]

theorem ret_text {s : ByteArray} {r : List UInt8} {e : Nat} {l : List UInt8} (h : textR l = (r, e)) (h2 : s = ⟨r.toArray⟩) :
    Ending.returned (.tuple #[.string s, .int .i64 (e : Int)]) = .returned (TextV l) := by rw [TextV, h, h2]
theorem ret_getText {s t : ByteArray} {r q : List UInt8} {e : Nat} {l : List UInt8} (h : getTextR l = (r, q, e)) (h1 : s = ⟨r.toArray⟩) (h2 : t = ⟨q.toArray⟩) :
    Ending.returned (.tuple #[.string s, .string t, .int .i64 (e : Int)]) = .returned (GetTextV l) := by rw [GetTextV, h, h1, h2]
theorem append_list (l : List UInt8) (s : ByteArray) : (⟨l.toArray⟩ : ByteArray) ++ s = ⟨(l ++ s.data.toList).toArray⟩ := by
  have := ByteArray.mk_append_mk l s.data.toList
  simpa using this

theorem text_any (s : ByteArray) (w : World) (hs : s.size ≤ maxLen) :
    Calls Try.prog 16 #[.string s] w fun x w' => x = .returned (TextV s.data.toList) ∧ Below w.heap.size w w' := by
  unfold maxLen at hs
  by_cases h : 4096 < s.size
  · have h' : (4096 : Int) < (s.size : Int) := by omega
    have HR : Hid (textR s.data.toList = ([], 5)) := Lib.hid (by unfold textR; rw [if_pos (by simpa using h)])
    clear h
    go_enter Try.func16, Try.ntmps16
    go_wp2_with fail
    go_ret2
    exact ⟨ret_text HR.out rfl, Below.refl _ _⟩
  · have h' : ¬ (4096 : Int) < (s.size : Int) := by omega
    have HR : Hid (textR s.data.toList = (numL s.size ++ s.data.toList, 0)) := Lib.hid (by unfold textR; rw [if_neg (by simpa using h)]; simp)
    have hnl : (numL s.size).length ≤ 10 := numL_len10 (by omega)
    go_enter Try.func16, Try.ntmps16
    go_wp2_with fail
    refine (num_any s.size _ (by omega)).mono ?_
    rintro e w1 ⟨rfl, hb⟩
    go_wp2_with fail
    go_ret2
    exact ⟨ret_text HR.out (append_list _ _), hb⟩

theorem refText_any (s : ByteArray) (w : World) (hs : s.size ≤ maxLen) :
    Calls Try.prog 17 #[.string s] w fun x w' => x = .returned (TextV s.data.toList) ∧ Below w.heap.size w w' := by
  unfold maxLen at hs
  by_cases h : 4096 < s.size
  · have h' : (4096 : Int) < (s.size : Int) := by omega
    have HR : Hid (textR s.data.toList = ([], 5)) := Lib.hid (by unfold textR; rw [if_pos (by simpa using h)])
    clear h
    go_enter Try.func17, Try.ntmps17
    go_wp2_with fail
    go_ret2
    exact ⟨ret_text HR.out rfl, Below.refl _ _⟩
  · have h' : ¬ (4096 : Int) < (s.size : Int) := by omega
    have HR : Hid (textR s.data.toList = (numL s.size ++ s.data.toList, 0)) := Lib.hid (by unfold textR; rw [if_neg (by simpa using h)]; simp)
    have hnl : (numL s.size).length ≤ 10 := numL_len10 (by omega)
    go_enter Try.func17, Try.ntmps17
    go_wp2_with fail
    refine (refNum_any s.size _ (by omega)).mono ?_
    rintro e w1 ⟨rfl, hb⟩
    go_wp2_with fail
    go_ret2
    exact ⟨ret_text HR.out (append_list _ _), hb⟩

theorem getR_rest (l : List UInt8) : (getR l).2.1.length ≤ l.length := by
  unfold getR; split
  · simp
  · split <;> simp

theorem extract_mk (l : List UInt8) (a b : Nat) : (⟨l.toArray⟩ : ByteArray).extract a b = ⟨((l.drop a).take (b - a)).toArray⟩ := by
  rw [Lib.extract_eq]

set_option maxRecDepth 100000 in
theorem getText_any (s : ByteArray) (w : World) (hs : s.size ≤ maxLen) :
    Calls Try.prog 18 #[.string s] w fun x w' => x = .returned (GetTextV s.data.toList) ∧ Below w.heap.size w w' := by
  obtain ⟨u, r, e, hr⟩ : ∃ u r e, getR s.data.toList = (u, r, e) := ⟨_, _, _, rfl⟩
  have hu : u < 18446744073709551616 := by have := getR_lt s.data.toList; rwa [hr] at this
  have hrl : r.length ≤ 9223372036854775807 := by have := getR_rest s.data.toList; rw [hr] at this; simp at this; unfold maxLen at hs; omega
  have HR := Lib.hid hr
  clear hr
  by_cases he : e = 0
  · subst he
    by_cases h1 : 4096 < u
    · have h1' : (4096 : Int) < (u : Int) := by omega
      have HT : Hid (getTextR s.data.toList = ([], [], 5)) := Lib.hid (by unfold getTextR; rw [HR.out]; simp [h1])
      go_enter Try.func18, Try.ntmps18
      go_wp2_with fail
      refine (get_at s _ hs HR).mono ?_
      rintro x w1 ⟨rfl, hb⟩
      go_wp2_with fail
      go_ret3
      exact ⟨ret_getText HT.out rfl rfl, hb⟩
    · have h1' : ¬ (4096 : Int) < (u : Int) := by omega
      by_cases h2 : r.length < u
      · have h2' : (r.length : Int) < (u : Int) := by omega
        have HT : Hid (getTextR s.data.toList = ([], [], 6)) := Lib.hid (by unfold getTextR; rw [HR.out]; simp [h1, h2])
        go_enter Try.func18, Try.ntmps18
        go_wp2_with fail
        refine (get_at s _ hs HR).mono ?_
        rintro x w1 ⟨rfl, hb⟩
        go_wp2_with fail
        go_ret3
        exact ⟨ret_getText HT.out rfl rfl, hb⟩
      · have h2' : ¬ (r.length : Int) < (u : Int) := by omega
        have h2'' : u ≤ r.length := by omega
        have HT : Hid (getTextR s.data.toList = (r.take u, r.drop u, 0)) := Lib.hid (by unfold getTextR; rw [HR.out]; simp [h1, h2])
        go_enter Try.func18, Try.ntmps18
        go_wp2_with fail
        refine (get_at s _ hs HR).mono ?_
        rintro x w1 ⟨rfl, hb⟩
        go_wp2_with fail
        go_quiet (fail)
        go_wp2_with fail
        go_ret3
        exact ⟨ret_getText HT.out (extract_mk _ _ _) ((extract_mk _ _ _).trans (by rw [List.take_of_length_le (by simp)])), below_drewN hb _⟩
  · obtain ⟨rfl, rfl⟩ := getR_err HR.out he
    have HT : Hid (getTextR s.data.toList = ([], [], e)) := Lib.hid (by unfold getTextR; rw [HR.out]; simp [he])
    have he' : ((e : Int) == 0) = false := by simp; omega
    have he'' : ((e : Int) != 0) = true := by simp; omega
    clear he
    go_enter Try.func18, Try.ntmps18
    go_wp2_with fail
    refine (get_at s _ hs HR).mono ?_
    rintro x w1 ⟨rfl, hb⟩
    go_wp2_with fail
    go_ret3
    exact ⟨ret_getText HT.out rfl rfl, hb⟩

set_option maxRecDepth 100000 in
theorem refGetText_any (s : ByteArray) (w : World) (hs : s.size ≤ maxLen) :
    Calls Try.prog 19 #[.string s] w fun x w' => x = .returned (GetTextV s.data.toList) ∧ Below w.heap.size w w' := by
  obtain ⟨u, r, e, hr⟩ : ∃ u r e, getR s.data.toList = (u, r, e) := ⟨_, _, _, rfl⟩
  have hu : u < 18446744073709551616 := by have := getR_lt s.data.toList; rwa [hr] at this
  have hrl : r.length ≤ 9223372036854775807 := by have := getR_rest s.data.toList; rw [hr] at this; simp at this; unfold maxLen at hs; omega
  have HR := Lib.hid hr
  clear hr
  by_cases he : e = 0
  · subst he
    by_cases h1 : 4096 < u
    · have h1' : (4096 : Int) < (u : Int) := by omega
      have HT : Hid (getTextR s.data.toList = ([], [], 5)) := Lib.hid (by unfold getTextR; rw [HR.out]; simp [h1])
      go_enter Try.func19, Try.ntmps19
      go_wp2_with fail
      refine (refGet_at s _ hs HR).mono ?_
      rintro x w1 ⟨rfl, hb⟩
      go_wp2_with fail
      go_ret3
      exact ⟨ret_getText HT.out rfl rfl, hb⟩
    · have h1' : ¬ (4096 : Int) < (u : Int) := by omega
      by_cases h2 : r.length < u
      · have h2' : (r.length : Int) < (u : Int) := by omega
        have HT : Hid (getTextR s.data.toList = ([], [], 6)) := Lib.hid (by unfold getTextR; rw [HR.out]; simp [h1, h2])
        go_enter Try.func19, Try.ntmps19
        go_wp2_with fail
        refine (refGet_at s _ hs HR).mono ?_
        rintro x w1 ⟨rfl, hb⟩
        go_wp2_with fail
        go_ret3
        exact ⟨ret_getText HT.out rfl rfl, hb⟩
      · have h2' : ¬ (r.length : Int) < (u : Int) := by omega
        have h2'' : u ≤ r.length := by omega
        have HT : Hid (getTextR s.data.toList = (r.take u, r.drop u, 0)) := Lib.hid (by unfold getTextR; rw [HR.out]; simp [h1, h2])
        go_enter Try.func19, Try.ntmps19
        go_wp2_with fail
        refine (refGet_at s _ hs HR).mono ?_
        rintro x w1 ⟨rfl, hb⟩
        go_wp2_with fail
        go_quiet (fail)
        go_wp2_with fail
        go_ret3
        exact ⟨ret_getText HT.out (extract_mk _ _ _) ((extract_mk _ _ _).trans (by rw [List.take_of_length_le (by simp)])), below_drewN hb _⟩
  · obtain ⟨rfl, rfl⟩ := getR_err HR.out he
    have HT : Hid (getTextR s.data.toList = ([], [], e)) := Lib.hid (by unfold getTextR; rw [HR.out]; simp [he])
    have he' : ((e : Int) == 0) = false := by simp; omega
    have he'' : ((e : Int) != 0) = true := by simp; omega
    clear he
    go_enter Try.func19, Try.ntmps19
    go_wp2_with fail
    refine (refGet_at s _ hs HR).mono ?_
    rintro x w1 ⟨rfl, hb⟩
    go_wp2_with fail
    go_ret3
    exact ⟨ret_getText HT.out rfl rfl, hb⟩
end Go.Proofs.Ytmgklpnjcnnnbaa
