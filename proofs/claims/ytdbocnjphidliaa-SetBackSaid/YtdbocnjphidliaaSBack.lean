/-
  The walk of the law SetBack (made by gen/back.py: one theorem a way).
-/
import Derived.Test.YtdbocnjphidliaaSAlive
namespace Go.Proofs.Ytdbocnjphidliaa
open Go.RowKit SetM

theorem ints_has (s : Nat) : ∀ j, j < (ints (nums s)).length → has s ((ints (nums s))[j]?.getD 0) = true ∧ 0 ≤ (ints (nums s))[j]?.getD 0 ∧ (ints (nums s))[j]?.getD 0 < 64 := by
  intro j hj
  have hm := mem_of_getDI hj
  obtain ⟨f, hf, he⟩ := List.mem_map.1 hm
  rw [← he]
  have := f.isLt
  exact ⟨by rw [has_val]; exact (mem_nums f).1 hf, by omega, by omega⟩
theorem rise_of (l : List (Fin 64)) (hr : l.Pairwise (· < ·)) : ∀ j, 0 < j → j < (ints l).length → (ints l)[j - 1]?.getD 0 < (ints l)[j]?.getD 0 := by
  intro j h0 hj
  rw [ints_len] at hj
  have hj1 : j - 1 < l.length := by omega
  have h1 : l[j - 1] < l[j] := List.pairwise_iff_getElem.1 hr (j - 1) j hj1 hj (by omega)
  rw [ints, List.getElem?_map, List.getElem?_map, List.getElem?_eq_getElem hj, List.getElem?_eq_getElem hj1]
  have h2 : (l[j - 1]).val < (l[j]).val := h1
  simpa using h2
theorem ints_rise (s : Nat) : ∀ j, 0 < j → j < (ints (nums s)).length → (ints (nums s))[j - 1]?.getD 0 < (ints (nums s))[j]?.getD 0 := rise_of _ (nums_rise s)
theorem ints_ints (s : Nat) : Ints (ints (nums s)) := by
  intro x hx
  obtain ⟨f, _, rfl⟩ := List.mem_map.1 hx
  have := f.isLt
  exact ⟨by omega, by omega⟩

/-- What is put, or taken out, tells of its own number alone. -/
theorem put_other {t : Nat} {x k : Int} {b : Bool} (h : has t k = b) (hne : x ≠ k) : has (withN t x) k = b := by rw [has_withN, h, decide_eq_false hne]; simp
theorem put_out {t : Nat} {x k : Int} {b : Bool} (h : has t k = b) (ho : ¬ (0 ≤ k ∧ k < 64)) : has (withN t x) k = b := by rw [has_withN, h, decide_eq_false ho]; simp
theorem put_same {t : Nat} {x k : Int} (he : x = k) (h0 : 0 ≤ k) (h1 : k < 64) : has (withN t x) k = true := by rw [has_withN, decide_eq_true he, decide_eq_true (show 0 ≤ k ∧ k < 64 from ⟨h0, h1⟩)]; simp
theorem take_other {t : Nat} {x k : Int} {b : Bool} (ht : t < 18446744073709551616) (h : has t k = b) (hne : x ≠ k) : has (lessN t x) k = b := by rw [has_lessN ht, h, decide_eq_false hne]; simp
theorem take_out {t : Nat} {x k : Int} {b : Bool} (ht : t < 18446744073709551616) (h : has t k = b) (ho : ¬ (0 ≤ k ∧ k < 64)) : has (lessN t x) k = b := by rw [has_lessN ht, ← h, has_out ho]; simp
theorem take_same {t : Nat} {x k : Int} (ht : t < 18446744073709551616) (he : x = k) : has (lessN t x) k = false := by rw [has_lessN ht, decide_eq_true he]; simp
theorem mod_even {j : Nat} (h : j % 2 = 0) : (j : Int) % 2 = 0 := by omega
theorem mod_odd {j : Nat} (h : ¬ j % 2 = 0) : ¬ (j : Int) % 2 = 0 := by omega
theorem mod_even' {j : Nat} (h : j % 2 = 0) : ((j : Int) % 2 == 0) = true := by simp; omega
theorem mod_odd' {j : Nat} (h : ¬ j % 2 = 0) : ((j : Int) % 2 == 0) = false := by simp; omega

set_option maxRecDepth 100000 in
set_option maxHeartbeats 1600000 in
theorem back_e_e (s : Nat) (k : Int) (w : World) (ad : Option Addr) (cap : Nat) (hs : s < 18446744073709551616) (hk1 : -9223372036854775808 ≤ k) (hk2 : k ≤ 9223372036854775807)
    (all : List Int) (Ha : Hid (ints (nums s) = all)) (hall0 : all = []) :
    Calls Try.prog 4 #[.int .u64 (s : Int), .slice ad 0 cap, .int .i64 k] w fun e w' => e = .returned (.bool true) ∧ Below w.heap.size w w' := by
  obtain ⟨bh, hbh⟩ : ∃ b, has s k = b := ⟨_, rfl⟩
  have Hh := Lib.hid hbh
  clear hbh
  have hallen : all.length ≤ 64 := by rw [← Ha.out, ints_len]; exact nums_len s
  have HO : Hid (ofL all = s) := Lib.hid (by rw [← Ha.out]; exact ofL_nums hs)
  have HC : Hid ((nums s).length = all.length) := Lib.hid (by rw [← Ha.out, ints_len])
  have HM : Hid (∀ j, j < all.length → has s (all[j]?.getD 0) = true ∧ 0 ≤ all[j]?.getD 0 ∧ all[j]?.getD 0 < 64) := Lib.hid (by rw [← Ha.out]; exact ints_has s)
  have HR : Hid (∀ j, 0 < j → j < all.length → all[j - 1]?.getD 0 < all[j]?.getD 0) := Lib.hid (by rw [← Ha.out]; exact ints_rise s)
  have HI : Ints all := by rw [← Ha.out]; exact ints_ints s
  go_enter Try.func4, Try.ntmps4
  go_wp2_with fail
  refine (list_at (s := s) _ hs Ha).mono ?_
  rintro q w1 ⟨v, rfl, HV, hb1⟩
  subst hall0
  obtain ⟨va, vc, rfl⟩ : ∃ a c, v = .slice a 0 c := by
    rcases HV.out with ⟨_, a, c, rfl⟩ | ⟨b, off, c, rfl, h0, _⟩
    · exact ⟨a, c, rfl⟩
    · simp at h0
  go_wp2_with fail
  refine (of_at _ HV.out HI (by simp) HO).mono ?_
  rintro q w1 ⟨rfl, rfl⟩
  go_wp2_with fail
  refine (len_at (s := s) _ hs HC).mono ?_
  rintro q w2 ⟨rfl, hb2⟩
  have hB2 := below_next hb1 hb2
  clear HV
  go_wp2_with fail
  refine wp_loop_rounds 1 ?_
  rw [rounds_succ]
  go_wp2_with fail
  refine (has_at (s := s) (k := k) _ hs hk1 hk2 Hh).mono ?_
  rintro q w3 ⟨rfl, rfl⟩
  go_wp2_with fail
  refine wp_loop_rounds 1 ?_
  rw [rounds_succ]
  go_wp2_with fail
  refine (alive_any _).mono ?_
  rintro q w9 ⟨rfl, hb9⟩
  have hBE := below_next hB2 hb9
  clear hb9
  go_wp2_with fail
  go_ret
  exact ⟨rfl, hBE⟩

set_option maxRecDepth 100000 in
set_option maxHeartbeats 1600000 in
theorem back_e_n (s : Nat) (k : Int) (w : World) (xs : List Int) (hx : Ints xs) (hxl : xs.length ≤ 300) (b off cap : Nat) (hb : b < w.heap.size) (hc : ∀ j, j < xs.length → w.cell? ⟨b, off + j, none⟩ = some (.int .i64 (xs[j]?.getD 0))) (hs : s < 18446744073709551616) (hk1 : -9223372036854775808 ≤ k) (hk2 : k ≤ 9223372036854775807)
    (all : List Int) (Ha : Hid (ints (nums s) = all)) (hall0 : all = []) :
    Calls Try.prog 4 #[.int .u64 (s : Int), .slice (some ⟨b, off, none⟩) xs.length cap, .int .i64 k] w fun e w' => e = .returned (.bool true) ∧ Below w.heap.size w w' := by
  obtain ⟨bh, hbh⟩ : ∃ b, has s k = b := ⟨_, rfl⟩
  have Hh := Lib.hid hbh
  clear hbh
  have hallen : all.length ≤ 64 := by rw [← Ha.out, ints_len]; exact nums_len s
  have HO : Hid (ofL all = s) := Lib.hid (by rw [← Ha.out]; exact ofL_nums hs)
  have HC : Hid ((nums s).length = all.length) := Lib.hid (by rw [← Ha.out, ints_len])
  have HM : Hid (∀ j, j < all.length → has s (all[j]?.getD 0) = true ∧ 0 ≤ all[j]?.getD 0 ∧ all[j]?.getD 0 < 64) := Lib.hid (by rw [← Ha.out]; exact ints_has s)
  have HR : Hid (∀ j, 0 < j → j < all.length → all[j - 1]?.getD 0 < all[j]?.getD 0) := Lib.hid (by rw [← Ha.out]; exact ints_rise s)
  have HI : Ints all := by rw [← Ha.out]; exact ints_ints s
  have hb300 : ¬ (300 : Int) < (xs.length : Int) := by omega
  go_enter Try.func4, Try.ntmps4
  go_wp2_with fail
  refine (list_at (s := s) _ hs Ha).mono ?_
  rintro q w1 ⟨v, rfl, HV, hb1⟩
  subst hall0
  obtain ⟨va, vc, rfl⟩ : ∃ a c, v = .slice a 0 c := by
    rcases HV.out with ⟨_, a, c, rfl⟩ | ⟨b, off, c, rfl, h0, _⟩
    · exact ⟨a, c, rfl⟩
    · simp at h0
  go_wp2_with fail
  refine (of_at _ HV.out HI (by simp) HO).mono ?_
  rintro q w1 ⟨rfl, rfl⟩
  go_wp2_with fail
  refine (len_at (s := s) _ hs HC).mono ?_
  rintro q w2 ⟨rfl, hb2⟩
  have hB2 := below_next hb1 hb2
  clear HV
  go_wp2_with fail
  refine wp_loop_rounds 1 ?_
  rw [rounds_succ]
  go_wp2_with fail
  refine (has_at (s := s) (k := k) _ hs hk1 hk2 Hh).mono ?_
  rintro q w3 ⟨rfl, rfl⟩
  go_wp2_with fail
  go_loopw [9, 10, 11] (fun iv tv jv wr => ∃ (j t : Nat) (bb : Bool), j ≤ xs.length ∧ jv = .int .i64 j ∧ tv = .int .u64 t ∧ t < 18446744073709551616 ∧ iv = .bool bb ∧ Hid (has t k = bb) ∧ Below w.heap.size w wr) (fun _ _ jv _ => xs.length - (intOf jv).toNat)
  case atStart => exact ⟨0, s, bh, Nat.zero_le _, rfl, rfl, hs, rfl, Hh, hB2⟩
  case round =>
    obtain ⟨j, t, bb, hj, rfl, rfl, ht, rfl, HB, hbl⟩ := hrel
    by_cases hlt : j < xs.length
    · have hlt' : (j : Int) < (xs.length : Int) := by omega
      have hcell : wr.cell? ⟨b, off + j, none⟩ = some (.int .i64 (xs[j]?.getD 0)) := (hbl.cell (p := ⟨b, off + j, none⟩) hb).trans (hc j hlt)
      have hxj := hx _ (mem_of_getDI hlt)
      obtain ⟨x, hxe⟩ : ∃ x, x = xs[j]?.getD 0 := ⟨_, rfl⟩
      rw [← hxe] at hcell hxj
      clear hxe hc
      have q0 : (0 : Int) ≤ (j : Int) := by omega
      by_cases hpar : j % 2 = 0
      · have hm := mod_even hpar
        have hm' := mod_even' hpar
        obtain ⟨t', HT⟩ : ∃ t', Hid (withN t x = t') := ⟨_, Lib.hid rfl⟩
        have ht' : t' < 18446744073709551616 := by rw [← HT.out]; exact withN_lt ht x
        by_cases he : x = k
        · subst he
          have hee : (x == x) = true := by simp
          by_cases hk0 : 0 ≤ x
          · by_cases hk64 : x < 64
            · have HN : Hid (has t' x = true) := Lib.hid (by rw [← HT.out]; exact put_same rfl hk0 hk64)
              clear hpar
              go_wp2_with fail
              refine (with_at (s := t) (k := x) _ ht hxj.1 hxj.2 HT).mono ?_
              rintro q w5 ⟨rfl, rfl⟩
              go_wp2_with fail
              refine (has_at (s := t') (k := x) _ ht' hk1 hk2 HN).mono ?_
              rintro q w5 ⟨rfl, rfl⟩
              go_wp2_with fail
              go_roundw
              case rel => exact ⟨j + 1, t', _, by omega, by go_num, rfl, ht', rfl, HN, hbl⟩
              case measure => simp [intOf]; omega
            · have HN : Hid (has t' x = bb) := Lib.hid (by rw [← HT.out]; exact put_out HB.out (by omega))
              clear hpar
              have hk64' : decide (x < 64) = false := by simp; omega
              go_wp2_with fail
              refine (with_at (s := t) (k := x) _ ht hxj.1 hxj.2 HT).mono ?_
              rintro q w5 ⟨rfl, rfl⟩
              go_wp2_with fail
              refine (has_at (s := t') (k := x) _ ht' hk1 hk2 HN).mono ?_
              rintro q w5 ⟨rfl, rfl⟩
              go_wp2_with fail
              go_roundw
              case rel => exact ⟨j + 1, t', _, by omega, by go_num, rfl, ht', rfl, HN, hbl⟩
              case measure => simp [intOf]; omega
          · have HN : Hid (has t' x = bb) := Lib.hid (by rw [← HT.out]; exact put_out HB.out (by omega))
            clear hpar
            have hk0' : decide (0 ≤ x) = false := by simp; omega
            go_wp2_with fail
            refine (with_at (s := t) (k := x) _ ht hxj.1 hxj.2 HT).mono ?_
            rintro q w5 ⟨rfl, rfl⟩
            go_wp2_with fail
            refine (has_at (s := t') (k := x) _ ht' hk1 hk2 HN).mono ?_
            rintro q w5 ⟨rfl, rfl⟩
            go_wp2_with fail
            go_roundw
            case rel => exact ⟨j + 1, t', _, by omega, by go_num, rfl, ht', rfl, HN, hbl⟩
            case measure => simp [intOf]; omega
        · have HN : Hid (has t' k = bb) := Lib.hid (by rw [← HT.out]; exact put_other HB.out he)
          have hee : (x == k) = false := by simp; omega
          clear hpar
          go_wp2_with fail
          refine (with_at (s := t) (k := x) _ ht hxj.1 hxj.2 HT).mono ?_
          rintro q w5 ⟨rfl, rfl⟩
          go_wp2_with fail
          refine (has_at (s := t') (k := k) _ ht' hk1 hk2 HN).mono ?_
          rintro q w5 ⟨rfl, rfl⟩
          go_wp2_with fail
          go_roundw
          case rel => exact ⟨j + 1, t', _, by omega, by go_num, rfl, ht', rfl, HN, hbl⟩
          case measure => simp [intOf]; omega
      · have hm := mod_odd hpar
        have hm' := mod_odd' hpar
        obtain ⟨t', HT⟩ : ∃ t', Hid (lessN t x = t') := ⟨_, Lib.hid rfl⟩
        have ht' : t' < 18446744073709551616 := by rw [← HT.out]; exact lessN_lt ht x
        by_cases he : x = k
        · subst he
          have hee : (x == x) = true := by simp
          by_cases hk0 : 0 ≤ x
          · by_cases hk64 : x < 64
            · have HN : Hid (has t' x = false) := Lib.hid (by rw [← HT.out]; exact take_same ht rfl)
              clear hpar
              go_wp2_with fail
              refine (less_at (s := t) (k := x) _ ht hxj.1 hxj.2 HT).mono ?_
              rintro q w5 ⟨rfl, rfl⟩
              go_wp2_with fail
              refine (has_at (s := t') (k := x) _ ht' hk1 hk2 HN).mono ?_
              rintro q w5 ⟨rfl, rfl⟩
              go_wp2_with fail
              go_roundw
              case rel => exact ⟨j + 1, t', _, by omega, by go_num, rfl, ht', rfl, HN, hbl⟩
              case measure => simp [intOf]; omega
            · have HN : Hid (has t' x = bb) := Lib.hid (by rw [← HT.out]; exact take_out ht HB.out (by omega))
              clear hpar
              have hk64' : decide (x < 64) = false := by simp; omega
              go_wp2_with fail
              refine (less_at (s := t) (k := x) _ ht hxj.1 hxj.2 HT).mono ?_
              rintro q w5 ⟨rfl, rfl⟩
              go_wp2_with fail
              refine (has_at (s := t') (k := x) _ ht' hk1 hk2 HN).mono ?_
              rintro q w5 ⟨rfl, rfl⟩
              go_wp2_with fail
              go_roundw
              case rel => exact ⟨j + 1, t', _, by omega, by go_num, rfl, ht', rfl, HN, hbl⟩
              case measure => simp [intOf]; omega
          · have HN : Hid (has t' x = bb) := Lib.hid (by rw [← HT.out]; exact take_out ht HB.out (by omega))
            clear hpar
            have hk0' : decide (0 ≤ x) = false := by simp; omega
            go_wp2_with fail
            refine (less_at (s := t) (k := x) _ ht hxj.1 hxj.2 HT).mono ?_
            rintro q w5 ⟨rfl, rfl⟩
            go_wp2_with fail
            refine (has_at (s := t') (k := x) _ ht' hk1 hk2 HN).mono ?_
            rintro q w5 ⟨rfl, rfl⟩
            go_wp2_with fail
            go_roundw
            case rel => exact ⟨j + 1, t', _, by omega, by go_num, rfl, ht', rfl, HN, hbl⟩
            case measure => simp [intOf]; omega
        · have HN : Hid (has t' k = bb) := Lib.hid (by rw [← HT.out]; exact take_other ht HB.out he)
          have hee : (x == k) = false := by simp; omega
          clear hpar
          go_wp2_with fail
          refine (less_at (s := t) (k := x) _ ht hxj.1 hxj.2 HT).mono ?_
          rintro q w5 ⟨rfl, rfl⟩
          go_wp2_with fail
          refine (has_at (s := t') (k := k) _ ht' hk1 hk2 HN).mono ?_
          rintro q w5 ⟨rfl, rfl⟩
          go_wp2_with fail
          go_roundw
          case rel => exact ⟨j + 1, t', _, by omega, by go_num, rfl, ht', rfl, HN, hbl⟩
          case measure => simp [intOf]; omega
    · have hlt' : ¬ (j : Int) < (xs.length : Int) := by omega
      clear hc hx hlt
      go_wp2_with fail
      refine (alive_any _).mono ?_
      rintro q w9 ⟨rfl, hb9⟩
      have hBE := below_next hbl hb9
      clear hb9
      go_wp2_with fail
      go_ret
      exact ⟨rfl, hBE⟩

set_option maxRecDepth 100000 in
set_option maxHeartbeats 1600000 in
theorem back_n_e (s : Nat) (k : Int) (w : World) (ad : Option Addr) (cap : Nat) (hs : s < 18446744073709551616) (hk1 : -9223372036854775808 ≤ k) (hk2 : k ≤ 9223372036854775807)
    (all : List Int) (Ha : Hid (ints (nums s) = all)) (hall0 : 0 < all.length) :
    Calls Try.prog 4 #[.int .u64 (s : Int), .slice ad 0 cap, .int .i64 k] w fun e w' => e = .returned (.bool true) ∧ Below w.heap.size w w' := by
  obtain ⟨bh, hbh⟩ : ∃ b, has s k = b := ⟨_, rfl⟩
  have Hh := Lib.hid hbh
  clear hbh
  have hallen : all.length ≤ 64 := by rw [← Ha.out, ints_len]; exact nums_len s
  have HO : Hid (ofL all = s) := Lib.hid (by rw [← Ha.out]; exact ofL_nums hs)
  have HC : Hid ((nums s).length = all.length) := Lib.hid (by rw [← Ha.out, ints_len])
  have HM : Hid (∀ j, j < all.length → has s (all[j]?.getD 0) = true ∧ 0 ≤ all[j]?.getD 0 ∧ all[j]?.getD 0 < 64) := Lib.hid (by rw [← Ha.out]; exact ints_has s)
  have HR : Hid (∀ j, 0 < j → j < all.length → all[j - 1]?.getD 0 < all[j]?.getD 0) := Lib.hid (by rw [← Ha.out]; exact ints_rise s)
  have HI : Ints all := by rw [← Ha.out]; exact ints_ints s
  go_enter Try.func4, Try.ntmps4
  go_wp2_with fail
  refine (list_at (s := s) _ hs Ha).mono ?_
  rintro q w1 ⟨v, rfl, HV, hb1⟩
  obtain ⟨vb, vo, vc, rfl, hvb, hvc⟩ : ∃ b o c, v = .slice (some ⟨b, o, none⟩) all.length c ∧ b < w1.heap.size ∧ ∀ j, j < all.length → w1.cell? ⟨b, o + j, none⟩ = some (.int .i64 (all[j]?.getD 0)) := by
    rcases HV.out with ⟨h0, a, c, rfl⟩ | ⟨b, off, c, rfl, h0, h1, h2⟩
    · rw [h0] at hall0; simp at hall0
    · exact ⟨b, off, c, rfl, h1, h2⟩
  go_wp2_with fail
  refine (of_at _ HV.out HI (by omega) HO).mono ?_
  rintro q w1 ⟨rfl, rfl⟩
  go_wp2_with fail
  refine (len_at (s := s) _ hs HC).mono ?_
  rintro q w2 ⟨rfl, hb2⟩
  have hB2 := below_next hb1 hb2
  clear HV
  go_wp2_with fail
  go_loopw [8] (fun iv wr => ∃ i : Nat, i ≤ all.length ∧ iv = .int .i64 i ∧ Below w.heap.size w wr ∧ Below w2.heap.size w2 wr) (fun iv _ => all.length - (intOf iv).toNat)
  case atStart => exact ⟨0, Nat.zero_le _, rfl, hB2, Below.refl _ _⟩
  case round =>
    obtain ⟨i, hi, rfl, hbl1, hbl2⟩ := hrel
    by_cases hilt : i < all.length
    · have hilt' : (i : Int) < (all.length : Int) := by omega
      have hi0 : (0 : Int) ≤ (i : Int) := by omega
      have hvbr : Below w1.heap.size w1 wr := below_next hb2 hbl2
      have hcx : wr.cell? ⟨vb, vo + i, none⟩ = some (.int .i64 (all[i]?.getD 0)) := (hvbr.cell (p := ⟨vb, vo + i, none⟩) hvb).trans (hvc i hilt)
      have hfx := HM.out i hilt
      by_cases hpos : 0 < i
      · have hcy : wr.cell? ⟨vb, vo + (i - 1), none⟩ = some (.int .i64 (all[i - 1]?.getD 0)) := (hvbr.cell (p := ⟨vb, vo + (i - 1), none⟩) hvb).trans (hvc (i - 1) (by omega))
        have hyx := HR.out i hpos hilt
        obtain ⟨x, hxe⟩ : ∃ x, x = all[i]?.getD 0 := ⟨_, rfl⟩
        obtain ⟨y, hye⟩ : ∃ y, y = all[i - 1]?.getD 0 := ⟨_, rfl⟩
        rw [← hxe] at hcx hfx hyx
        rw [← hye] at hcy hyx
        clear hxe hye hvc hvbr
        have hi1 : (0 : Int) ≤ (i : Int) - 1 := by omega
        have hi2 : (i : Int) - 1 < (all.length : Int) := by omega
        have hi3 : ((i : Int) - 1).toNat = i - 1 := by omega
        have hposI : (0 : Int) < (i : Int) := by omega
        have hcy' : wr.cell? ⟨vb, vo + ((i : Int) - 1).toNat, none⟩ = some (.int .i64 y) := by rw [hi3]; exact hcy
        have HX := Lib.hid hfx.1
        have hx0 := hfx.2.1
        have hx1 := hfx.2.2
        have hxy1 : ¬ x ≤ y := by omega
        have hxy2 : decide (x ≤ y) = false := by simp; omega
        clear hfx hi3
        go_wp2_with fail
        go_quiet (first | (go_at_call 8; refine Calls.quiet_of_same (has_at (s := s) (k := x) _ hs (by omega) (by omega) HX)))
        go_wp2_with fail
        go_roundw
        case rel => exact ⟨i + 1, by omega, by go_num, below_drewN hbl1 _, below_drewN hbl2 _⟩
        case measure => simp [intOf]; omega
      · obtain ⟨x, hxe⟩ : ∃ x, x = all[i]?.getD 0 := ⟨_, rfl⟩
        rw [← hxe] at hcx hfx
        clear hxe hvc hvbr
        have hpos1 : decide ((0 : Int) < (i : Int)) = false := by simp; omega
        have hpos2 : decide (0 < i) = false := by simp; omega
        have HX := Lib.hid hfx.1
        have hx0 := hfx.2.1
        have hx1 := hfx.2.2
        clear hfx
        go_wp2_with fail
        go_quiet (first | (go_at_call 8; refine Calls.quiet_of_same (has_at (s := s) (k := x) _ hs (by omega) (by omega) HX)))
        go_wp2_with fail
        go_roundw
        case rel => exact ⟨i + 1, by omega, by go_num, below_drewN hbl1 _, below_drewN hbl2 _⟩
        case measure => simp [intOf]; omega
    · have hilt' : ¬ (i : Int) < (all.length : Int) := by omega
      clear hvc hilt
      go_wp2_with fail
      refine (has_at (s := s) (k := k) _ hs hk1 hk2 Hh).mono ?_
      rintro q w3 ⟨rfl, rfl⟩
      go_wp2_with fail
      refine wp_loop_rounds 1 ?_
      rw [rounds_succ]
      go_wp2_with fail
      refine (alive_any _).mono ?_
      rintro q w9 ⟨rfl, hb9⟩
      have hBE := below_next hbl1 hb9
      clear hb9
      go_wp2_with fail
      go_ret
      exact ⟨rfl, hBE⟩

set_option maxRecDepth 100000 in
set_option maxHeartbeats 1600000 in
theorem back_n_n (s : Nat) (k : Int) (w : World) (xs : List Int) (hx : Ints xs) (hxl : xs.length ≤ 300) (b off cap : Nat) (hb : b < w.heap.size) (hc : ∀ j, j < xs.length → w.cell? ⟨b, off + j, none⟩ = some (.int .i64 (xs[j]?.getD 0))) (hs : s < 18446744073709551616) (hk1 : -9223372036854775808 ≤ k) (hk2 : k ≤ 9223372036854775807)
    (all : List Int) (Ha : Hid (ints (nums s) = all)) (hall0 : 0 < all.length) :
    Calls Try.prog 4 #[.int .u64 (s : Int), .slice (some ⟨b, off, none⟩) xs.length cap, .int .i64 k] w fun e w' => e = .returned (.bool true) ∧ Below w.heap.size w w' := by
  obtain ⟨bh, hbh⟩ : ∃ b, has s k = b := ⟨_, rfl⟩
  have Hh := Lib.hid hbh
  clear hbh
  have hallen : all.length ≤ 64 := by rw [← Ha.out, ints_len]; exact nums_len s
  have HO : Hid (ofL all = s) := Lib.hid (by rw [← Ha.out]; exact ofL_nums hs)
  have HC : Hid ((nums s).length = all.length) := Lib.hid (by rw [← Ha.out, ints_len])
  have HM : Hid (∀ j, j < all.length → has s (all[j]?.getD 0) = true ∧ 0 ≤ all[j]?.getD 0 ∧ all[j]?.getD 0 < 64) := Lib.hid (by rw [← Ha.out]; exact ints_has s)
  have HR : Hid (∀ j, 0 < j → j < all.length → all[j - 1]?.getD 0 < all[j]?.getD 0) := Lib.hid (by rw [← Ha.out]; exact ints_rise s)
  have HI : Ints all := by rw [← Ha.out]; exact ints_ints s
  have hb300 : ¬ (300 : Int) < (xs.length : Int) := by omega
  go_enter Try.func4, Try.ntmps4
  go_wp2_with fail
  refine (list_at (s := s) _ hs Ha).mono ?_
  rintro q w1 ⟨v, rfl, HV, hb1⟩
  obtain ⟨vb, vo, vc, rfl, hvb, hvc⟩ : ∃ b o c, v = .slice (some ⟨b, o, none⟩) all.length c ∧ b < w1.heap.size ∧ ∀ j, j < all.length → w1.cell? ⟨b, o + j, none⟩ = some (.int .i64 (all[j]?.getD 0)) := by
    rcases HV.out with ⟨h0, a, c, rfl⟩ | ⟨b, off, c, rfl, h0, h1, h2⟩
    · rw [h0] at hall0; simp at hall0
    · exact ⟨b, off, c, rfl, h1, h2⟩
  go_wp2_with fail
  refine (of_at _ HV.out HI (by omega) HO).mono ?_
  rintro q w1 ⟨rfl, rfl⟩
  go_wp2_with fail
  refine (len_at (s := s) _ hs HC).mono ?_
  rintro q w2 ⟨rfl, hb2⟩
  have hB2 := below_next hb1 hb2
  clear HV
  go_wp2_with fail
  go_loopw [8] (fun iv wr => ∃ i : Nat, i ≤ all.length ∧ iv = .int .i64 i ∧ Below w.heap.size w wr ∧ Below w2.heap.size w2 wr) (fun iv _ => all.length - (intOf iv).toNat)
  case atStart => exact ⟨0, Nat.zero_le _, rfl, hB2, Below.refl _ _⟩
  case round =>
    obtain ⟨i, hi, rfl, hbl1, hbl2⟩ := hrel
    by_cases hilt : i < all.length
    · have hilt' : (i : Int) < (all.length : Int) := by omega
      have hi0 : (0 : Int) ≤ (i : Int) := by omega
      have hvbr : Below w1.heap.size w1 wr := below_next hb2 hbl2
      have hcx : wr.cell? ⟨vb, vo + i, none⟩ = some (.int .i64 (all[i]?.getD 0)) := (hvbr.cell (p := ⟨vb, vo + i, none⟩) hvb).trans (hvc i hilt)
      have hfx := HM.out i hilt
      by_cases hpos : 0 < i
      · have hcy : wr.cell? ⟨vb, vo + (i - 1), none⟩ = some (.int .i64 (all[i - 1]?.getD 0)) := (hvbr.cell (p := ⟨vb, vo + (i - 1), none⟩) hvb).trans (hvc (i - 1) (by omega))
        have hyx := HR.out i hpos hilt
        obtain ⟨x, hxe⟩ : ∃ x, x = all[i]?.getD 0 := ⟨_, rfl⟩
        obtain ⟨y, hye⟩ : ∃ y, y = all[i - 1]?.getD 0 := ⟨_, rfl⟩
        rw [← hxe] at hcx hfx hyx
        rw [← hye] at hcy hyx
        clear hxe hye hvc hvbr
        have hi1 : (0 : Int) ≤ (i : Int) - 1 := by omega
        have hi2 : (i : Int) - 1 < (all.length : Int) := by omega
        have hi3 : ((i : Int) - 1).toNat = i - 1 := by omega
        have hposI : (0 : Int) < (i : Int) := by omega
        have hcy' : wr.cell? ⟨vb, vo + ((i : Int) - 1).toNat, none⟩ = some (.int .i64 y) := by rw [hi3]; exact hcy
        have HX := Lib.hid hfx.1
        have hx0 := hfx.2.1
        have hx1 := hfx.2.2
        have hxy1 : ¬ x ≤ y := by omega
        have hxy2 : decide (x ≤ y) = false := by simp; omega
        clear hfx hi3
        go_wp2_with fail
        go_quiet (first | (go_at_call 8; refine Calls.quiet_of_same (has_at (s := s) (k := x) _ hs (by omega) (by omega) HX)))
        go_wp2_with fail
        go_roundw
        case rel => exact ⟨i + 1, by omega, by go_num, below_drewN hbl1 _, below_drewN hbl2 _⟩
        case measure => simp [intOf]; omega
      · obtain ⟨x, hxe⟩ : ∃ x, x = all[i]?.getD 0 := ⟨_, rfl⟩
        rw [← hxe] at hcx hfx
        clear hxe hvc hvbr
        have hpos1 : decide ((0 : Int) < (i : Int)) = false := by simp; omega
        have hpos2 : decide (0 < i) = false := by simp; omega
        have HX := Lib.hid hfx.1
        have hx0 := hfx.2.1
        have hx1 := hfx.2.2
        clear hfx
        go_wp2_with fail
        go_quiet (first | (go_at_call 8; refine Calls.quiet_of_same (has_at (s := s) (k := x) _ hs (by omega) (by omega) HX)))
        go_wp2_with fail
        go_roundw
        case rel => exact ⟨i + 1, by omega, by go_num, below_drewN hbl1 _, below_drewN hbl2 _⟩
        case measure => simp [intOf]; omega
    · have hilt' : ¬ (i : Int) < (all.length : Int) := by omega
      clear hvc hilt
      go_wp2_with fail
      refine (has_at (s := s) (k := k) _ hs hk1 hk2 Hh).mono ?_
      rintro q w3 ⟨rfl, rfl⟩
      go_wp2_with fail
      go_loopw [9, 10, 11] (fun iv tv jv wr => ∃ (j t : Nat) (bb : Bool), j ≤ xs.length ∧ jv = .int .i64 j ∧ tv = .int .u64 t ∧ t < 18446744073709551616 ∧ iv = .bool bb ∧ Hid (has t k = bb) ∧ Below w.heap.size w wr) (fun _ _ jv _ => xs.length - (intOf jv).toNat)
      case atStart => exact ⟨0, s, bh, Nat.zero_le _, rfl, rfl, hs, rfl, Hh, hbl1⟩
      case round =>
        obtain ⟨j, t, bb, hj, rfl, rfl, ht, rfl, HB, hbl⟩ := hrel
        by_cases hlt : j < xs.length
        · have hlt' : (j : Int) < (xs.length : Int) := by omega
          have hcell : wr.cell? ⟨b, off + j, none⟩ = some (.int .i64 (xs[j]?.getD 0)) := (hbl.cell (p := ⟨b, off + j, none⟩) hb).trans (hc j hlt)
          have hxj := hx _ (mem_of_getDI hlt)
          obtain ⟨x, hxe⟩ : ∃ x, x = xs[j]?.getD 0 := ⟨_, rfl⟩
          rw [← hxe] at hcell hxj
          clear hxe hc
          have q0 : (0 : Int) ≤ (j : Int) := by omega
          by_cases hpar : j % 2 = 0
          · have hm := mod_even hpar
            have hm' := mod_even' hpar
            obtain ⟨t', HT⟩ : ∃ t', Hid (withN t x = t') := ⟨_, Lib.hid rfl⟩
            have ht' : t' < 18446744073709551616 := by rw [← HT.out]; exact withN_lt ht x
            by_cases he : x = k
            · subst he
              have hee : (x == x) = true := by simp
              by_cases hk0 : 0 ≤ x
              · by_cases hk64 : x < 64
                · have HN : Hid (has t' x = true) := Lib.hid (by rw [← HT.out]; exact put_same rfl hk0 hk64)
                  clear hpar
                  go_wp2_with fail
                  refine (with_at (s := t) (k := x) _ ht hxj.1 hxj.2 HT).mono ?_
                  rintro q w5 ⟨rfl, rfl⟩
                  go_wp2_with fail
                  refine (has_at (s := t') (k := x) _ ht' hk1 hk2 HN).mono ?_
                  rintro q w5 ⟨rfl, rfl⟩
                  go_wp2_with fail
                  go_roundw
                  case rel => exact ⟨j + 1, t', _, by omega, by go_num, rfl, ht', rfl, HN, hbl⟩
                  case measure => simp [intOf]; omega
                · have HN : Hid (has t' x = bb) := Lib.hid (by rw [← HT.out]; exact put_out HB.out (by omega))
                  clear hpar
                  have hk64' : decide (x < 64) = false := by simp; omega
                  go_wp2_with fail
                  refine (with_at (s := t) (k := x) _ ht hxj.1 hxj.2 HT).mono ?_
                  rintro q w5 ⟨rfl, rfl⟩
                  go_wp2_with fail
                  refine (has_at (s := t') (k := x) _ ht' hk1 hk2 HN).mono ?_
                  rintro q w5 ⟨rfl, rfl⟩
                  go_wp2_with fail
                  go_roundw
                  case rel => exact ⟨j + 1, t', _, by omega, by go_num, rfl, ht', rfl, HN, hbl⟩
                  case measure => simp [intOf]; omega
              · have HN : Hid (has t' x = bb) := Lib.hid (by rw [← HT.out]; exact put_out HB.out (by omega))
                clear hpar
                have hk0' : decide (0 ≤ x) = false := by simp; omega
                go_wp2_with fail
                refine (with_at (s := t) (k := x) _ ht hxj.1 hxj.2 HT).mono ?_
                rintro q w5 ⟨rfl, rfl⟩
                go_wp2_with fail
                refine (has_at (s := t') (k := x) _ ht' hk1 hk2 HN).mono ?_
                rintro q w5 ⟨rfl, rfl⟩
                go_wp2_with fail
                go_roundw
                case rel => exact ⟨j + 1, t', _, by omega, by go_num, rfl, ht', rfl, HN, hbl⟩
                case measure => simp [intOf]; omega
            · have HN : Hid (has t' k = bb) := Lib.hid (by rw [← HT.out]; exact put_other HB.out he)
              have hee : (x == k) = false := by simp; omega
              clear hpar
              go_wp2_with fail
              refine (with_at (s := t) (k := x) _ ht hxj.1 hxj.2 HT).mono ?_
              rintro q w5 ⟨rfl, rfl⟩
              go_wp2_with fail
              refine (has_at (s := t') (k := k) _ ht' hk1 hk2 HN).mono ?_
              rintro q w5 ⟨rfl, rfl⟩
              go_wp2_with fail
              go_roundw
              case rel => exact ⟨j + 1, t', _, by omega, by go_num, rfl, ht', rfl, HN, hbl⟩
              case measure => simp [intOf]; omega
          · have hm := mod_odd hpar
            have hm' := mod_odd' hpar
            obtain ⟨t', HT⟩ : ∃ t', Hid (lessN t x = t') := ⟨_, Lib.hid rfl⟩
            have ht' : t' < 18446744073709551616 := by rw [← HT.out]; exact lessN_lt ht x
            by_cases he : x = k
            · subst he
              have hee : (x == x) = true := by simp
              by_cases hk0 : 0 ≤ x
              · by_cases hk64 : x < 64
                · have HN : Hid (has t' x = false) := Lib.hid (by rw [← HT.out]; exact take_same ht rfl)
                  clear hpar
                  go_wp2_with fail
                  refine (less_at (s := t) (k := x) _ ht hxj.1 hxj.2 HT).mono ?_
                  rintro q w5 ⟨rfl, rfl⟩
                  go_wp2_with fail
                  refine (has_at (s := t') (k := x) _ ht' hk1 hk2 HN).mono ?_
                  rintro q w5 ⟨rfl, rfl⟩
                  go_wp2_with fail
                  go_roundw
                  case rel => exact ⟨j + 1, t', _, by omega, by go_num, rfl, ht', rfl, HN, hbl⟩
                  case measure => simp [intOf]; omega
                · have HN : Hid (has t' x = bb) := Lib.hid (by rw [← HT.out]; exact take_out ht HB.out (by omega))
                  clear hpar
                  have hk64' : decide (x < 64) = false := by simp; omega
                  go_wp2_with fail
                  refine (less_at (s := t) (k := x) _ ht hxj.1 hxj.2 HT).mono ?_
                  rintro q w5 ⟨rfl, rfl⟩
                  go_wp2_with fail
                  refine (has_at (s := t') (k := x) _ ht' hk1 hk2 HN).mono ?_
                  rintro q w5 ⟨rfl, rfl⟩
                  go_wp2_with fail
                  go_roundw
                  case rel => exact ⟨j + 1, t', _, by omega, by go_num, rfl, ht', rfl, HN, hbl⟩
                  case measure => simp [intOf]; omega
              · have HN : Hid (has t' x = bb) := Lib.hid (by rw [← HT.out]; exact take_out ht HB.out (by omega))
                clear hpar
                have hk0' : decide (0 ≤ x) = false := by simp; omega
                go_wp2_with fail
                refine (less_at (s := t) (k := x) _ ht hxj.1 hxj.2 HT).mono ?_
                rintro q w5 ⟨rfl, rfl⟩
                go_wp2_with fail
                refine (has_at (s := t') (k := x) _ ht' hk1 hk2 HN).mono ?_
                rintro q w5 ⟨rfl, rfl⟩
                go_wp2_with fail
                go_roundw
                case rel => exact ⟨j + 1, t', _, by omega, by go_num, rfl, ht', rfl, HN, hbl⟩
                case measure => simp [intOf]; omega
            · have HN : Hid (has t' k = bb) := Lib.hid (by rw [← HT.out]; exact take_other ht HB.out he)
              have hee : (x == k) = false := by simp; omega
              clear hpar
              go_wp2_with fail
              refine (less_at (s := t) (k := x) _ ht hxj.1 hxj.2 HT).mono ?_
              rintro q w5 ⟨rfl, rfl⟩
              go_wp2_with fail
              refine (has_at (s := t') (k := k) _ ht' hk1 hk2 HN).mono ?_
              rintro q w5 ⟨rfl, rfl⟩
              go_wp2_with fail
              go_roundw
              case rel => exact ⟨j + 1, t', _, by omega, by go_num, rfl, ht', rfl, HN, hbl⟩
              case measure => simp [intOf]; omega
        · have hlt' : ¬ (j : Int) < (xs.length : Int) := by omega
          clear hc hx hlt
          go_wp2_with fail
          refine (alive_any _).mono ?_
          rintro q w9 ⟨rfl, hb9⟩
          have hBE := below_next hbl hb9
          clear hb9
          go_wp2_with fail
          go_ret
          exact ⟨rfl, hBE⟩

set_option maxRecDepth 100000 in
set_option maxHeartbeats 800000 in
theorem back_walk (a : Option Addr) (len0 cap : Nat) (xs : List Int) (s : Nat) (k : Int) (w : World) (hl0 : xs.length = len0) (hr : RowI w (.slice a len0 cap) xs) (hx : Ints xs)
    (hxl : len0 ≤ 9223372036854775807) (hs : s < 18446744073709551616) (hk1 : -9223372036854775808 ≤ k) (hk2 : k ≤ 9223372036854775807) :
    Calls Try.prog 4 #[.int .u64 (s : Int), .slice a len0 cap, .int .i64 k] w fun e w' => e = .returned (.bool true) ∧ Below w.heap.size w w' := by
  by_cases hb1 : 300 < len0
  · have hb1' : (300 : Int) < (len0 : Int) := by omega
    clear hr hl0
    go_enter Try.func4, Try.ntmps4
    go_wp2_with fail
    refine (alive_any _).mono ?_
    rintro q w1 ⟨rfl, hb⟩
    go_wp2_with fail
    go_ret
    exact ⟨rfl, hb⟩
  · subst hl0
    rcases hr with ⟨rfl, ad, cap', h1⟩ | ⟨b, off, cap', h1, h0, hb, hc⟩
    · simp only [Value.slice.injEq] at h1
      obtain ⟨rfl, _, rfl⟩ := h1
      by_cases he : ints (nums s) = []
      · exact back_e_e s k w _ _ hs hk1 hk2 _ (Lib.hid rfl) he
      · exact back_n_e s k w _ _ hs hk1 hk2 _ (Lib.hid rfl) (List.length_pos_iff.mpr he)
    · simp only [Value.slice.injEq] at h1
      obtain ⟨rfl, _, rfl⟩ := h1
      by_cases he : ints (nums s) = []
      · exact back_e_n s k w xs hx (by omega) b off cap hb hc hs hk1 hk2 _ (Lib.hid rfl) he
      · exact back_n_n s k w xs hx (by omega) b off cap hb hc hs hk1 hk2 _ (Lib.hid rfl) (List.length_pos_iff.mpr he)
end Go.Proofs.Ytdbocnjphidliaa
