/-
  The walk of the law OctetRows.
-/
import Derived.Test.YtmgklpnjcnnnbaaNumbers
namespace Go.Proofs.Ytmgklpnjcnnnbaa
open Go.RowKit Oct

theorem rowG_app (xs : List Nat) : ∀ (acc : List Nat) (s : List UInt8), (∀ x ∈ xs, x < 18446744073709551616) → rowG xs.length acc (rowL xs ++ s) = (acc ++ xs, s, 0) := by
  induction xs with
  | nil => intro acc s _; simp [rowG, rowL]
  | cons x t ih =>
    intro acc s h
    have h1 : getR (rowL (x :: t) ++ s) = (x, rowL t ++ s, 0) := by
      simp only [rowL, List.flatMap_cons, List.append_assoc]
      exact getR_numL (h x (by simp)) _
    simp only [List.length_cons, rowG, h1]
    rw [if_neg (by simp), ih _ _ (fun y hy => h y (by simp [hy]))]
    simp
theorem rowG_cut (l0 : Nat) : ∀ (l : List UInt8), l.length = l0 → ∀ (N M : Nat) (acc : List Nat), l.length + 1 ≤ N → l.length + 1 ≤ M → rowG N acc l = rowG M acc l := by
  induction l0 using Nat.strongRecOn with
  | ind l0 ih =>
    intro l hl N M acc hN hM
    obtain ⟨N, rfl⟩ : ∃ K, N = K + 1 := ⟨N - 1, by omega⟩
    obtain ⟨M, rfl⟩ : ∃ K, M = K + 1 := ⟨M - 1, by omega⟩
    simp only [rowG]
    by_cases he : (getR l).2.2 = 0
    · rw [if_neg (by simpa using he), if_neg (by simpa using he)]
      obtain ⟨u, r, f, hr⟩ : ∃ u r f, getR l = (u, r, f) := ⟨_, _, _, rfl⟩
      rw [hr] at he ⊢
      simp only at he
      subst he
      have hs := getR_shrinks hr
      exact ih r.length (by omega) r rfl N M _ (by omega) (by omega)
    · rw [if_pos (by simpa using he), if_pos (by simpa using he)]
theorem rowR_min (n : Int) (l : List UInt8) : rowR (min n ((l.length : Int) + 1)) l = rowR n l := by
  unfold rowR
  by_cases h : n ≤ (l.length : Int) + 1
  · rw [show min n ((l.length : Int) + 1) = n by omega]
  · exact rowG_cut _ l rfl _ _ _ (by omega) (by omega)
theorem rowG_len (N : Nat) : ∀ (acc : List Nat) (l : List UInt8), (rowG N acc l).1.length ≤ acc.length + l.length := by
  induction N with
  | zero => intro acc l; simp [rowG]
  | succ N ih =>
    intro acc l
    simp only [rowG]
    by_cases he : (getR l).2.2 = 0
    · rw [if_neg (by simpa using he)]
      obtain ⟨u, r, f, hr⟩ : ∃ u r f, getR l = (u, r, f) := ⟨_, _, _, rfl⟩
      rw [hr] at he ⊢
      simp only at he
      subst he
      have hs := getR_shrinks hr
      have := ih (acc ++ [u]) r
      simp only [List.length_append, List.length_cons, List.length_nil] at this ⊢
      omega
    · rw [if_pos (by simpa using he)]; simp
theorem prefix_free {v w : Nat} (hv : v < 18446744073709551616) (hw : w < 18446744073709551616) (h : (numL w).take (numL v).length = numL v) : v = w := by
  have h1 := getR_numL hw []
  rw [List.append_nil] at h1
  have h2 := getR_numL hv ((numL w).drop (numL v).length)
  have h3 : numL v ++ (numL w).drop (numL v).length = numL w := by
    have := List.take_append_drop (numL v).length (numL w)
    rwa [h] at this
  rw [h3, h1] at h2
  simp only [Prod.mk.injEq] at h2
  exact h2.1.symm

/-- What is behind a call in the law. -/
theorem getRow_app (l : List UInt8) {xs : List Nat} (s : ByteArray) (n : Int) (w : World) (hs : l.length + s.size ≤ 1000000) (hn1 : -9223372036854775808 ≤ n) (hn2 : n ≤ 9223372036854775807) (h : Hid (rowR n (l ++ s.data.toList) = (xs, s.data.toList, 0))) :
    Calls Try.prog 21 #[.string (⟨l.toArray⟩ ++ s), .int .i64 n] w fun x w' => ∃ v', x = .returned (.tuple #[v', .string s, .int .i64 0]) ∧ Hid (Row64 w' v' xs) ∧ Below w.heap.size w w' := by
  have hl : (⟨l.toArray⟩ ++ s : ByteArray).data.toList = l ++ s.data.toList := by rw [append_list]
  have := getRow_at (xs := xs) (r := s.data.toList) (e := 0) (⟨l.toArray⟩ ++ s) n w (by rw [ByteArray.size_append, size_mk]; exact hs) hn1 hn2 (Lib.hid (by rw [hl]; exact h.out))
  rw [mk_data] at this; exact this
theorem same_yes (a b : Value) (xs : List Nat) (w : World) (ha : Row64 w a xs) (hb : Row64 w b xs) (hxl : xs.length ≤ 9223372036854775807) :
    Calls Try.prog 24 #[a, b] w fun e w' => e = .returned (.bool true) ∧ Below w.heap.size w w' := by
  have := same_any a b xs xs w ha hb hxl hxl
  simpa using this

set_option maxRecDepth 100000 in
set_option maxHeartbeats 3200000 in
theorem rows_nil_le (xs : List Nat) (s : ByteArray) (n : Int) (v u : Nat) (w : World) (HL : Hid (xs.length = 0)) (hr : Row64 w (.slice none 0 0) xs) (hx : ∀ x ∈ xs, x < 18446744073709551616)
    (hl200 : xs.length ≤ 200) (hs4 : s.size ≤ 4096) (hn1 : -9223372036854775808 ≤ n) (hn2 : n ≤ 9223372036854775807) (hmn : n ≤ (s.size : Int) + 1) (hv : v < 18446744073709551616) (hu : u < 18446744073709551616) :
    Calls Try.prog 6 #[.slice none 0 0, .string s, .int .i64 n, .int .u64 v, .int .u64 u] w fun e w' => e = .returned (.bool true) ∧ Below w.heap.size w w' := by
  obtain ⟨i0, hi, hz0, hz1, hz2⟩ := info_parts info22
  have hb2' : decide ((4096 : Int) < (s.size : Int)) = false := by simp; omega
  obtain ⟨ys, r, e, hq⟩ : ∃ ys r e, rowR n s.data.toList = (ys, r, e) := ⟨_, _, _, rfl⟩
  have hyl : ys.length ≤ 4096 := by
    have := rowG_len n.toNat [] s.data.toList
    unfold rowR at hq; rw [hq] at this; simp at this; omega
  have HQ := Lib.hid hq
  have HM : Hid (rowR n s.data.toList = (ys, r, e)) := Lib.hid (by
    have := rowR_min n s.data.toList
    rw [hq] at this
    rwa [show min n ((s.data.toList.length : Int) + 1) = n by simp; omega] at this)
  clear hq
  have hal : (rowL xs).length ≤ 2000 := by have := rowL_len xs hx; omega
  have HA : Hid (rowR (0 : Int) (rowL xs ++ s.data.toList) = (xs, s.data.toList, 0)) := Lib.hid (by
    have := rowG_app xs [] s.data.toList hx
    unfold rowR; rw [HL.out] at this; simpa using this)
  go_enter Try.func6, Try.ntmps6
  have hr1 := hr
  have hrl := hr
  have hb0 : Below w.heap.size w w := Below.refl _ _
  go_wp2_with fail
  refine (row_any _ xs _ hr1 hx (by omega)).mono ?_
  rintro q w2 ⟨rfl, hc2⟩
  go_wp2_with fail
  refine (getRow_at s n _ (by omega) hn1 hn2 HQ).mono ?_
  rintro q w3 ⟨m, rfl, hm, hc3⟩
  go_wp2_with fail
  refine (refGetRow_at s n _ (by omega) (by omega) (by omega) HM).mono ?_
  rintro q w4 ⟨o, rfl, ho, hc4⟩
  go_wp2_with fail
  refine (getRow_app (rowL xs) s (0 : Int) _ (by omega) (by omega) (by omega) HA).mono ?_
  rintro q w5 ⟨bk, rfl, hbk, hc5⟩
  have hbe : Below w.heap.size w w5 := below_next (below_next (below_next hc2 hc3) hc4) hc5
  have hrl5 := hrl.below hbe
  have hm5 : Hid (Row64 w5 m ys) := Lib.hid (hm.out.below (below_next hc4 hc5))
  have ho5 : Hid (Row64 w5 o ys) := Lib.hid (ho.out.below hc5)
  have hB5 : Below w.heap.size w w5 := below_next hb0 hbe
  clear hc2 hc3 hc4 hc5 hbe hm ho hrl hr1
  go_wp2_with fail
  refine (refRow_any _ xs _ hrl5 hx (by omega)).mono ?_
  rintro q w6 ⟨rfl, hc6⟩
  go_wp2_with fail
  refine (same_yes _ _ ys _ (hm5.out.below hc6) (ho5.out.below hc6) (by omega)).mono ?_
  rintro q w7 ⟨rfl, hc7⟩
  go_wp2_with fail
  refine (same_yes _ _ xs _ (hbk.out.below (below_next hc6 hc7)) (hrl5.below (below_next hc6 hc7)) (by omega)).mono ?_
  rintro q w8 ⟨rfl, hc8⟩
  have hB8 : Below w.heap.size w w8 := below_next (below_next (below_next hB5 hc6) hc7) hc8
  clear hc6 hc7 hc8 hrl5 hm5 ho5 hbk hB5
  go_wp2_with fail
  refine (num_any v _ hv).mono ?_
  rintro q w9 ⟨rfl, hc9⟩
  go_wp2_with fail
  refine (num_any u _ hu).mono ?_
  rintro q w10 ⟨rfl, hc10⟩
  have hB : Below w.heap.size w w10 := below_next (below_next hB8 hc9) hc10
  clear hB8 hc9 hc10
  have hext : Hid (((⟨(numL u).toArray⟩ : ByteArray).extract 0 (numL v).length).toList = (numL u).take (numL v).length) := Lib.hid (by rw [Lib.extract_toList]; simp)
  by_cases hvu : v = u
  · subst hvu
    have hx1 : ((⟨(numL v).toArray⟩ : ByteArray).extract 0 (numL v).length).toList = numL v := by rw [hext.out, List.take_length]
    go_wp2_with fail
    clear hx1
    refine (alive_any _).mono ?_
    rintro q w11 ⟨rfl, hc11⟩
    have hB' := below_next hB hc11
    clear hB hc11
    go_wp2_with fail
    go_ret
    exact ⟨rfl, hB'⟩
  · have hne : ((v : Int) == (u : Int)) = false := by simp; omega
    by_cases hle : (numL v).length ≤ (numL u).length
    · have hx1 : (((⟨(numL u).toArray⟩ : ByteArray).extract 0 (numL v).length).toList == numL v) = false := by
        rw [hext.out]; simp; exact fun h => hvu (prefix_free hv hu h)
      clear hvu
      go_wp2_with fail
      clear hx1
      refine (alive_any _).mono ?_
      rintro q w11 ⟨rfl, hc11⟩
      have hB' := below_next hB hc11
      clear hB hc11
      go_wp2_with fail
      go_ret
      exact ⟨rfl, hB'⟩
    · have hle' : decide ((numL v).length ≤ (numL u).length) = false := by simp; omega
      clear hvu
      go_wp2_with fail
      refine (alive_any _).mono ?_
      rintro q w11 ⟨rfl, hc11⟩
      have hB' := below_next hB hc11
      clear hB hc11
      go_wp2_with fail
      go_ret
      exact ⟨rfl, hB'⟩

set_option maxRecDepth 100000 in
set_option maxHeartbeats 3200000 in
theorem rows_nil_gt (xs : List Nat) (s : ByteArray) (n : Int) (v u : Nat) (w : World) (HL : Hid (xs.length = 0)) (hr : Row64 w (.slice none 0 0) xs) (hx : ∀ x ∈ xs, x < 18446744073709551616)
    (hl200 : xs.length ≤ 200) (hs4 : s.size ≤ 4096) (hn1 : -9223372036854775808 ≤ n) (hn2 : n ≤ 9223372036854775807) (hmn : ¬ n ≤ (s.size : Int) + 1) (hv : v < 18446744073709551616) (hu : u < 18446744073709551616) :
    Calls Try.prog 6 #[.slice none 0 0, .string s, .int .i64 n, .int .u64 v, .int .u64 u] w fun e w' => e = .returned (.bool true) ∧ Below w.heap.size w w' := by
  obtain ⟨i0, hi, hz0, hz1, hz2⟩ := info_parts info22
  have hb2' : decide ((4096 : Int) < (s.size : Int)) = false := by simp; omega
  obtain ⟨ys, r, e, hq⟩ : ∃ ys r e, rowR n s.data.toList = (ys, r, e) := ⟨_, _, _, rfl⟩
  have hyl : ys.length ≤ 4096 := by
    have := rowG_len n.toNat [] s.data.toList
    unfold rowR at hq; rw [hq] at this; simp at this; omega
  have HQ := Lib.hid hq
  have HM : Hid (rowR ((s.size : Int) + 1) s.data.toList = (ys, r, e)) := Lib.hid (by
    have := rowR_min n s.data.toList
    rw [hq] at this
    rwa [show min n ((s.data.toList.length : Int) + 1) = ((s.size : Int) + 1) by simp; omega] at this)
  clear hq
  have hal : (rowL xs).length ≤ 2000 := by have := rowL_len xs hx; omega
  have HA : Hid (rowR (0 : Int) (rowL xs ++ s.data.toList) = (xs, s.data.toList, 0)) := Lib.hid (by
    have := rowG_app xs [] s.data.toList hx
    unfold rowR; rw [HL.out] at this; simpa using this)
  go_enter Try.func6, Try.ntmps6
  have hr1 := hr
  have hrl := hr
  have hb0 : Below w.heap.size w w := Below.refl _ _
  go_wp2_with fail
  refine (row_any _ xs _ hr1 hx (by omega)).mono ?_
  rintro q w2 ⟨rfl, hc2⟩
  go_wp2_with fail
  refine (getRow_at s n _ (by omega) hn1 hn2 HQ).mono ?_
  rintro q w3 ⟨m, rfl, hm, hc3⟩
  go_wp2_with fail
  refine (refGetRow_at s ((s.size : Int) + 1) _ (by omega) (by omega) (by omega) HM).mono ?_
  rintro q w4 ⟨o, rfl, ho, hc4⟩
  go_wp2_with fail
  refine (getRow_app (rowL xs) s (0 : Int) _ (by omega) (by omega) (by omega) HA).mono ?_
  rintro q w5 ⟨bk, rfl, hbk, hc5⟩
  have hbe : Below w.heap.size w w5 := below_next (below_next (below_next hc2 hc3) hc4) hc5
  have hrl5 := hrl.below hbe
  have hm5 : Hid (Row64 w5 m ys) := Lib.hid (hm.out.below (below_next hc4 hc5))
  have ho5 : Hid (Row64 w5 o ys) := Lib.hid (ho.out.below hc5)
  have hB5 : Below w.heap.size w w5 := below_next hb0 hbe
  clear hc2 hc3 hc4 hc5 hbe hm ho hrl hr1
  go_wp2_with fail
  refine (refRow_any _ xs _ hrl5 hx (by omega)).mono ?_
  rintro q w6 ⟨rfl, hc6⟩
  go_wp2_with fail
  refine (same_yes _ _ ys _ (hm5.out.below hc6) (ho5.out.below hc6) (by omega)).mono ?_
  rintro q w7 ⟨rfl, hc7⟩
  go_wp2_with fail
  refine (same_yes _ _ xs _ (hbk.out.below (below_next hc6 hc7)) (hrl5.below (below_next hc6 hc7)) (by omega)).mono ?_
  rintro q w8 ⟨rfl, hc8⟩
  have hB8 : Below w.heap.size w w8 := below_next (below_next (below_next hB5 hc6) hc7) hc8
  clear hc6 hc7 hc8 hrl5 hm5 ho5 hbk hB5
  go_wp2_with fail
  refine (num_any v _ hv).mono ?_
  rintro q w9 ⟨rfl, hc9⟩
  go_wp2_with fail
  refine (num_any u _ hu).mono ?_
  rintro q w10 ⟨rfl, hc10⟩
  have hB : Below w.heap.size w w10 := below_next (below_next hB8 hc9) hc10
  clear hB8 hc9 hc10
  have hext : Hid (((⟨(numL u).toArray⟩ : ByteArray).extract 0 (numL v).length).toList = (numL u).take (numL v).length) := Lib.hid (by rw [Lib.extract_toList]; simp)
  by_cases hvu : v = u
  · subst hvu
    have hx1 : ((⟨(numL v).toArray⟩ : ByteArray).extract 0 (numL v).length).toList = numL v := by rw [hext.out, List.take_length]
    go_wp2_with fail
    clear hx1
    refine (alive_any _).mono ?_
    rintro q w11 ⟨rfl, hc11⟩
    have hB' := below_next hB hc11
    clear hB hc11
    go_wp2_with fail
    go_ret
    exact ⟨rfl, hB'⟩
  · have hne : ((v : Int) == (u : Int)) = false := by simp; omega
    by_cases hle : (numL v).length ≤ (numL u).length
    · have hx1 : (((⟨(numL u).toArray⟩ : ByteArray).extract 0 (numL v).length).toList == numL v) = false := by
        rw [hext.out]; simp; exact fun h => hvu (prefix_free hv hu h)
      clear hvu
      go_wp2_with fail
      clear hx1
      refine (alive_any _).mono ?_
      rintro q w11 ⟨rfl, hc11⟩
      have hB' := below_next hB hc11
      clear hB hc11
      go_wp2_with fail
      go_ret
      exact ⟨rfl, hB'⟩
    · have hle' : decide ((numL v).length ≤ (numL u).length) = false := by simp; omega
      clear hvu
      go_wp2_with fail
      refine (alive_any _).mono ?_
      rintro q w11 ⟨rfl, hc11⟩
      have hB' := below_next hB hc11
      clear hB hc11
      go_wp2_with fail
      go_ret
      exact ⟨rfl, hB'⟩

set_option maxRecDepth 100000 in
set_option maxHeartbeats 3200000 in
theorem rows_row_le (ad : Addr) (len0 cap : Nat) (xs : List Nat) (s : ByteArray) (n : Int) (v u : Nat) (w : World) (HL : Hid (xs.length = len0)) (hr : Row64 w (.slice (some ad) len0 cap) xs) (hx : ∀ x ∈ xs, x < 18446744073709551616)
    (hl200 : xs.length ≤ 200) (hl0 : len0 ≤ 200) (hs4 : s.size ≤ 4096) (hn1 : -9223372036854775808 ≤ n) (hn2 : n ≤ 9223372036854775807) (hmn : n ≤ (s.size : Int) + 1) (hv : v < 18446744073709551616) (hu : u < 18446744073709551616) :
    Calls Try.prog 6 #[.slice (some ad) len0 cap, .string s, .int .i64 n, .int .u64 v, .int .u64 u] w fun e w' => e = .returned (.bool true) ∧ Below w.heap.size w w' := by
  obtain ⟨i0, hi, hz0, hz1, hz2⟩ := info_parts info22
  have hb2' : decide ((4096 : Int) < (s.size : Int)) = false := by simp; omega
  have hb1' : decide ((200 : Int) < (len0 : Int)) = false := by simp; omega
  obtain ⟨ys, r, e, hq⟩ : ∃ ys r e, rowR n s.data.toList = (ys, r, e) := ⟨_, _, _, rfl⟩
  have hyl : ys.length ≤ 4096 := by
    have := rowG_len n.toNat [] s.data.toList
    unfold rowR at hq; rw [hq] at this; simp at this; omega
  have HQ := Lib.hid hq
  have HM : Hid (rowR n s.data.toList = (ys, r, e)) := Lib.hid (by
    have := rowR_min n s.data.toList
    rw [hq] at this
    rwa [show min n ((s.data.toList.length : Int) + 1) = n by simp; omega] at this)
  clear hq
  have hal : (rowL xs).length ≤ 2000 := by have := rowL_len xs hx; omega
  have HA : Hid (rowR (len0 : Int) (rowL xs ++ s.data.toList) = (xs, s.data.toList, 0)) := Lib.hid (by
    have := rowG_app xs [] s.data.toList hx
    unfold rowR; rw [HL.out] at this; simpa using this)
  go_enter Try.func6, Try.ntmps6
  go_wp2_with (at_builtin; refine wpList_append_own _ rfl _ _ 38 rfl w.heap.size 22 i0 (.int .u64 0) 1 8 Try.underlying38 hi hz0 hz1 hz2 rfl (by decide) _ 0 [] rfl (World.ownsRow_nil _ _ _ _) ad len0 cap (U64 xs) rfl ?c0 ?c1 ?c2 ?c3 ?c4 ?c5 ?_)
  case c0 => simp [U64]; exact HL.out
  case c1 =>
    intro j x hj
    rcases hr with ⟨rfl, _⟩ | ⟨b, off, cap', h1, _, _, hc⟩
    · simp [U64] at hj
    · simp only [Value.slice.injEq, Option.some.injEq] at h1
      obtain ⟨rfl, _, _⟩ := h1
      have hjl : j < xs.length := by
        have := (List.getElem?_eq_some_iff.mp hj).1
        simpa [U64] using this
      have h2 := hc j hjl
      rw [U64, List.getElem?_map, List.getElem?_eq_getElem hjl] at hj
      rw [List.getElem?_eq_getElem hjl] at h2
      simp at hj h2
      rw [← hj, ← h2]
      by_cases h0 : j = 0
      · subst h0; simp [Addr.add]
      · simp [Addr.add, h0]
  case c2 => intro x hx; simp [U64] at hx; obtain ⟨y, _, rfl⟩ := hx; rfl
  case c3 => have := HL.out; unfold maxLen; omega
  case c4 => have := HL.out; omega
  try (case c5 => first | omega | (simp; omega))
  intro V w1 hown hgrow _
  have hb0 : Below w.heap.size w w1 := (Below.refl _ _).grown hgrow (Nat.le_refl _) (fun k hk => by cases hk)
  have hr1 : Row64 w1 V xs := Row64.of_owns (by have h := HL.out; rw [h]; simpa [U64] using hown)
  have hrl := hr.below hb0
  clear hr hown hgrow
  go_wp2_with fail
  refine (row_any _ xs _ hr1 hx (by omega)).mono ?_
  rintro q w2 ⟨rfl, hc2⟩
  go_wp2_with fail
  refine (getRow_at s n _ (by omega) hn1 hn2 HQ).mono ?_
  rintro q w3 ⟨m, rfl, hm, hc3⟩
  go_wp2_with fail
  refine (refGetRow_at s n _ (by omega) (by omega) (by omega) HM).mono ?_
  rintro q w4 ⟨o, rfl, ho, hc4⟩
  go_wp2_with fail
  refine (getRow_app (rowL xs) s (len0 : Int) _ (by omega) (by omega) (by omega) HA).mono ?_
  rintro q w5 ⟨bk, rfl, hbk, hc5⟩
  have hbe : Below w1.heap.size w1 w5 := below_next (below_next (below_next hc2 hc3) hc4) hc5
  have hrl5 := hrl.below hbe
  have hm5 : Hid (Row64 w5 m ys) := Lib.hid (hm.out.below (below_next hc4 hc5))
  have ho5 : Hid (Row64 w5 o ys) := Lib.hid (ho.out.below hc5)
  have hB5 : Below w.heap.size w w5 := below_next hb0 hbe
  clear hc2 hc3 hc4 hc5 hbe hm ho hrl hr1
  go_wp2_with fail
  refine (refRow_any _ xs _ hrl5 hx (by omega)).mono ?_
  rintro q w6 ⟨rfl, hc6⟩
  go_wp2_with fail
  refine (same_yes _ _ ys _ (hm5.out.below hc6) (ho5.out.below hc6) (by omega)).mono ?_
  rintro q w7 ⟨rfl, hc7⟩
  go_wp2_with fail
  refine (same_yes _ _ xs _ (hbk.out.below (below_next hc6 hc7)) (hrl5.below (below_next hc6 hc7)) (by omega)).mono ?_
  rintro q w8 ⟨rfl, hc8⟩
  have hB8 : Below w.heap.size w w8 := below_next (below_next (below_next hB5 hc6) hc7) hc8
  clear hc6 hc7 hc8 hrl5 hm5 ho5 hbk hB5
  go_wp2_with fail
  refine (num_any v _ hv).mono ?_
  rintro q w9 ⟨rfl, hc9⟩
  go_wp2_with fail
  refine (num_any u _ hu).mono ?_
  rintro q w10 ⟨rfl, hc10⟩
  have hB : Below w.heap.size w w10 := below_next (below_next hB8 hc9) hc10
  clear hB8 hc9 hc10
  have hext : Hid (((⟨(numL u).toArray⟩ : ByteArray).extract 0 (numL v).length).toList = (numL u).take (numL v).length) := Lib.hid (by rw [Lib.extract_toList]; simp)
  by_cases hvu : v = u
  · subst hvu
    have hx1 : ((⟨(numL v).toArray⟩ : ByteArray).extract 0 (numL v).length).toList = numL v := by rw [hext.out, List.take_length]
    go_wp2_with fail
    clear hx1
    refine (alive_any _).mono ?_
    rintro q w11 ⟨rfl, hc11⟩
    have hB' := below_next hB hc11
    clear hB hc11
    go_wp2_with fail
    go_ret
    exact ⟨rfl, hB'⟩
  · have hne : ((v : Int) == (u : Int)) = false := by simp; omega
    by_cases hle : (numL v).length ≤ (numL u).length
    · have hx1 : (((⟨(numL u).toArray⟩ : ByteArray).extract 0 (numL v).length).toList == numL v) = false := by
        rw [hext.out]; simp; exact fun h => hvu (prefix_free hv hu h)
      clear hvu
      go_wp2_with fail
      clear hx1
      refine (alive_any _).mono ?_
      rintro q w11 ⟨rfl, hc11⟩
      have hB' := below_next hB hc11
      clear hB hc11
      go_wp2_with fail
      go_ret
      exact ⟨rfl, hB'⟩
    · have hle' : decide ((numL v).length ≤ (numL u).length) = false := by simp; omega
      clear hvu
      go_wp2_with fail
      refine (alive_any _).mono ?_
      rintro q w11 ⟨rfl, hc11⟩
      have hB' := below_next hB hc11
      clear hB hc11
      go_wp2_with fail
      go_ret
      exact ⟨rfl, hB'⟩

set_option maxRecDepth 100000 in
set_option maxHeartbeats 3200000 in
theorem rows_row_gt (ad : Addr) (len0 cap : Nat) (xs : List Nat) (s : ByteArray) (n : Int) (v u : Nat) (w : World) (HL : Hid (xs.length = len0)) (hr : Row64 w (.slice (some ad) len0 cap) xs) (hx : ∀ x ∈ xs, x < 18446744073709551616)
    (hl200 : xs.length ≤ 200) (hl0 : len0 ≤ 200) (hs4 : s.size ≤ 4096) (hn1 : -9223372036854775808 ≤ n) (hn2 : n ≤ 9223372036854775807) (hmn : ¬ n ≤ (s.size : Int) + 1) (hv : v < 18446744073709551616) (hu : u < 18446744073709551616) :
    Calls Try.prog 6 #[.slice (some ad) len0 cap, .string s, .int .i64 n, .int .u64 v, .int .u64 u] w fun e w' => e = .returned (.bool true) ∧ Below w.heap.size w w' := by
  obtain ⟨i0, hi, hz0, hz1, hz2⟩ := info_parts info22
  have hb2' : decide ((4096 : Int) < (s.size : Int)) = false := by simp; omega
  have hb1' : decide ((200 : Int) < (len0 : Int)) = false := by simp; omega
  obtain ⟨ys, r, e, hq⟩ : ∃ ys r e, rowR n s.data.toList = (ys, r, e) := ⟨_, _, _, rfl⟩
  have hyl : ys.length ≤ 4096 := by
    have := rowG_len n.toNat [] s.data.toList
    unfold rowR at hq; rw [hq] at this; simp at this; omega
  have HQ := Lib.hid hq
  have HM : Hid (rowR ((s.size : Int) + 1) s.data.toList = (ys, r, e)) := Lib.hid (by
    have := rowR_min n s.data.toList
    rw [hq] at this
    rwa [show min n ((s.data.toList.length : Int) + 1) = ((s.size : Int) + 1) by simp; omega] at this)
  clear hq
  have hal : (rowL xs).length ≤ 2000 := by have := rowL_len xs hx; omega
  have HA : Hid (rowR (len0 : Int) (rowL xs ++ s.data.toList) = (xs, s.data.toList, 0)) := Lib.hid (by
    have := rowG_app xs [] s.data.toList hx
    unfold rowR; rw [HL.out] at this; simpa using this)
  go_enter Try.func6, Try.ntmps6
  go_wp2_with (at_builtin; refine wpList_append_own _ rfl _ _ 38 rfl w.heap.size 22 i0 (.int .u64 0) 1 8 Try.underlying38 hi hz0 hz1 hz2 rfl (by decide) _ 0 [] rfl (World.ownsRow_nil _ _ _ _) ad len0 cap (U64 xs) rfl ?c0 ?c1 ?c2 ?c3 ?c4 ?c5 ?_)
  case c0 => simp [U64]; exact HL.out
  case c1 =>
    intro j x hj
    rcases hr with ⟨rfl, _⟩ | ⟨b, off, cap', h1, _, _, hc⟩
    · simp [U64] at hj
    · simp only [Value.slice.injEq, Option.some.injEq] at h1
      obtain ⟨rfl, _, _⟩ := h1
      have hjl : j < xs.length := by
        have := (List.getElem?_eq_some_iff.mp hj).1
        simpa [U64] using this
      have h2 := hc j hjl
      rw [U64, List.getElem?_map, List.getElem?_eq_getElem hjl] at hj
      rw [List.getElem?_eq_getElem hjl] at h2
      simp at hj h2
      rw [← hj, ← h2]
      by_cases h0 : j = 0
      · subst h0; simp [Addr.add]
      · simp [Addr.add, h0]
  case c2 => intro x hx; simp [U64] at hx; obtain ⟨y, _, rfl⟩ := hx; rfl
  case c3 => have := HL.out; unfold maxLen; omega
  case c4 => have := HL.out; omega
  try (case c5 => first | omega | (simp; omega))
  intro V w1 hown hgrow _
  have hb0 : Below w.heap.size w w1 := (Below.refl _ _).grown hgrow (Nat.le_refl _) (fun k hk => by cases hk)
  have hr1 : Row64 w1 V xs := Row64.of_owns (by have h := HL.out; rw [h]; simpa [U64] using hown)
  have hrl := hr.below hb0
  clear hr hown hgrow
  go_wp2_with fail
  refine (row_any _ xs _ hr1 hx (by omega)).mono ?_
  rintro q w2 ⟨rfl, hc2⟩
  go_wp2_with fail
  refine (getRow_at s n _ (by omega) hn1 hn2 HQ).mono ?_
  rintro q w3 ⟨m, rfl, hm, hc3⟩
  go_wp2_with fail
  refine (refGetRow_at s ((s.size : Int) + 1) _ (by omega) (by omega) (by omega) HM).mono ?_
  rintro q w4 ⟨o, rfl, ho, hc4⟩
  go_wp2_with fail
  refine (getRow_app (rowL xs) s (len0 : Int) _ (by omega) (by omega) (by omega) HA).mono ?_
  rintro q w5 ⟨bk, rfl, hbk, hc5⟩
  have hbe : Below w1.heap.size w1 w5 := below_next (below_next (below_next hc2 hc3) hc4) hc5
  have hrl5 := hrl.below hbe
  have hm5 : Hid (Row64 w5 m ys) := Lib.hid (hm.out.below (below_next hc4 hc5))
  have ho5 : Hid (Row64 w5 o ys) := Lib.hid (ho.out.below hc5)
  have hB5 : Below w.heap.size w w5 := below_next hb0 hbe
  clear hc2 hc3 hc4 hc5 hbe hm ho hrl hr1
  go_wp2_with fail
  refine (refRow_any _ xs _ hrl5 hx (by omega)).mono ?_
  rintro q w6 ⟨rfl, hc6⟩
  go_wp2_with fail
  refine (same_yes _ _ ys _ (hm5.out.below hc6) (ho5.out.below hc6) (by omega)).mono ?_
  rintro q w7 ⟨rfl, hc7⟩
  go_wp2_with fail
  refine (same_yes _ _ xs _ (hbk.out.below (below_next hc6 hc7)) (hrl5.below (below_next hc6 hc7)) (by omega)).mono ?_
  rintro q w8 ⟨rfl, hc8⟩
  have hB8 : Below w.heap.size w w8 := below_next (below_next (below_next hB5 hc6) hc7) hc8
  clear hc6 hc7 hc8 hrl5 hm5 ho5 hbk hB5
  go_wp2_with fail
  refine (num_any v _ hv).mono ?_
  rintro q w9 ⟨rfl, hc9⟩
  go_wp2_with fail
  refine (num_any u _ hu).mono ?_
  rintro q w10 ⟨rfl, hc10⟩
  have hB : Below w.heap.size w w10 := below_next (below_next hB8 hc9) hc10
  clear hB8 hc9 hc10
  have hext : Hid (((⟨(numL u).toArray⟩ : ByteArray).extract 0 (numL v).length).toList = (numL u).take (numL v).length) := Lib.hid (by rw [Lib.extract_toList]; simp)
  by_cases hvu : v = u
  · subst hvu
    have hx1 : ((⟨(numL v).toArray⟩ : ByteArray).extract 0 (numL v).length).toList = numL v := by rw [hext.out, List.take_length]
    go_wp2_with fail
    clear hx1
    refine (alive_any _).mono ?_
    rintro q w11 ⟨rfl, hc11⟩
    have hB' := below_next hB hc11
    clear hB hc11
    go_wp2_with fail
    go_ret
    exact ⟨rfl, hB'⟩
  · have hne : ((v : Int) == (u : Int)) = false := by simp; omega
    by_cases hle : (numL v).length ≤ (numL u).length
    · have hx1 : (((⟨(numL u).toArray⟩ : ByteArray).extract 0 (numL v).length).toList == numL v) = false := by
        rw [hext.out]; simp; exact fun h => hvu (prefix_free hv hu h)
      clear hvu
      go_wp2_with fail
      clear hx1
      refine (alive_any _).mono ?_
      rintro q w11 ⟨rfl, hc11⟩
      have hB' := below_next hB hc11
      clear hB hc11
      go_wp2_with fail
      go_ret
      exact ⟨rfl, hB'⟩
    · have hle' : decide ((numL v).length ≤ (numL u).length) = false := by simp; omega
      clear hvu
      go_wp2_with fail
      refine (alive_any _).mono ?_
      rintro q w11 ⟨rfl, hc11⟩
      have hB' := below_next hB hc11
      clear hB hc11
      go_wp2_with fail
      go_ret
      exact ⟨rfl, hB'⟩

set_option maxRecDepth 100000 in
set_option maxHeartbeats 800000 in
theorem rows_walk (a : Option Addr) (len0 cap : Nat) (xs : List Nat) (s : ByteArray) (n : Int) (v u : Nat) (w : World) (hn : a = none → len0 = 0 ∧ cap = 0) (hl0 : xs.length = len0) (hr : Row64 w (.slice a len0 cap) xs) (hx : ∀ x ∈ xs, x < 18446744073709551616)
    (hxl : len0 ≤ 9223372036854775807) (hs : s.size ≤ maxLen) (hn1 : -9223372036854775808 ≤ n) (hn2 : n ≤ 9223372036854775807) (hv : v < 18446744073709551616) (hu : u < 18446744073709551616) :
    Calls Try.prog 6 #[.slice a len0 cap, .string s, .int .i64 n, .int .u64 v, .int .u64 u] w fun e w' => e = .returned (.bool true) ∧ Below w.heap.size w w' := by
  unfold maxLen at hs
  by_cases hb1 : 200 < len0
  · have hb1' : (200 : Int) < (len0 : Int) := by omega
    clear hr hn hl0
    go_enter Try.func6, Try.ntmps6
    go_wp2_with fail
    refine (alive_any _).mono ?_
    rintro q w1 ⟨rfl, hb⟩
    go_wp2_with fail
    go_ret
    exact ⟨rfl, hb⟩
  · by_cases hb2 : 4096 < s.size
    · have hb1' : decide ((200 : Int) < (len0 : Int)) = false := by simp; omega
      have hb2' : (4096 : Int) < (s.size : Int) := by omega
      clear hr hn hl0
      go_enter Try.func6, Try.ntmps6
      go_wp2_with fail
      refine (alive_any _).mono ?_
      rintro q w1 ⟨rfl, hb⟩
      go_wp2_with fail
      go_ret
      exact ⟨rfl, hb⟩
    · cases a with
      | none =>
        obtain ⟨rfl, rfl⟩ := hn rfl
        by_cases hmn : n ≤ (s.size : Int) + 1
        · exact rows_nil_le xs s n v u w hl0 hr hx (by omega) (by omega) hn1 hn2 hmn hv hu
        · exact rows_nil_gt xs s n v u w hl0 hr hx (by omega) (by omega) hn1 hn2 hmn hv hu
      | some ad =>
        by_cases hmn : n ≤ (s.size : Int) + 1
        · exact rows_row_le ad len0 cap xs s n v u w hl0 hr hx (by omega) (by omega) (by omega) hn1 hn2 hmn hv hu
        · exact rows_row_gt ad len0 cap xs s n v u w hl0 hr hx (by omega) (by omega) (by omega) hn1 hn2 hmn hv hu
end Go.Proofs.Ytmgklpnjcnnnbaa
