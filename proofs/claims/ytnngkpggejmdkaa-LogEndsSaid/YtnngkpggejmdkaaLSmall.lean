/-
  == of entries; the walks of the law's inside, last.
-/
import Derived.Test.YtnngkpggejmdkaaLFrom
namespace Go.Proofs.Ytnngkpggejmdkaa
open Go.RowKit


theorem sub_step {l all : List En} {k i : Nat} {x y : En} (hx : all[i]? = some x) (hy : l[k]? = some y) : (l.drop k).isSublist (all.drop i) = if x = y then (l.drop (k + 1)).isSublist (all.drop (i + 1)) else (l.drop k).isSublist (all.drop (i + 1)) := by
  obtain ⟨h1, h2⟩ := List.getElem?_eq_some_iff.1 hx
  obtain ⟨h3, h4⟩ := List.getElem?_eq_some_iff.1 hy
  rw [List.drop_eq_getElem_cons h1, List.drop_eq_getElem_cons h3, h2, h4]
  by_cases e : x = y
  · subst e
    rw [if_pos rfl]
    simp [List.isSublist]
  · rw [if_neg e]
    conv => lhs; unfold List.isSublist
    have : (y == x) = false := by simpa using fun h => e h.symm
    rw [this]
    simp
theorem sub_end {l all : List En} {k : Nat} (hk : k ≤ l.length) : (l.drop k).isSublist (all.drop all.length) = decide (k = l.length) := by
  rw [List.drop_length]
  by_cases e : k = l.length
  · subst e; simp
  · rw [List.drop_eq_getElem_cons (by omega)]
    simp [List.isSublist, e]
theorem sub_done {l all : List En} {i : Nat} : (l.drop l.length).isSublist (all.drop i) = true := by
  rw [List.drop_length]; simp [List.isSublist]

set_option maxRecDepth 100000 in
set_option maxHeartbeats 1600000 in
theorem inside_any (a b : Value) (l all : List En) (w : World) (ha : EnRow w a l) (hb : EnRow w b all) (hxl : l.length ≤ 100000) (hyl : all.length ≤ 100000) :
    Calls Try.prog 14 #[a, b] w fun e w' => e = .returned (.bool (l.isSublist all)) ∧ Below w.heap.size w w' := by
  obtain ⟨p1, c1, rfl⟩ := ha.slice
  obtain ⟨p2, c2, rfl⟩ := hb.slice
  go_enter Try.func14, Try.ntmps14
  go_wp2_with fail
  go_loopw [5, 6] (fun kv iv wr => ∃ k i : Nat, kv = .int .i64 (k : Int) ∧ iv = .int .i64 (i : Int) ∧ k ≤ l.length ∧ i ≤ all.length ∧ Hid (l.isSublist all = (l.drop k).isSublist (all.drop i)) ∧ Below w.heap.size w wr) (fun _ iv _ => all.length - (intOf iv).toNat)
  case atStart => exact ⟨0, 0, rfl, rfl, Nat.zero_le _, Nat.zero_le _, Lib.hid (by simp), Below.refl _ _⟩
  case round =>
    obtain ⟨k, i, rfl, rfl, hk, hi, HS, hbl⟩ := hrel
    by_cases hlt : i < all.length
    · have hlt' : (i : Int) < (all.length : Int) := by omega
      have q0 : (0 : Int) ≤ (i : Int) := by omega
      by_cases hkt : k < l.length
      · have hkt' : (k : Int) < (l.length : Int) := by omega
        have q1 : (0 : Int) ≤ (k : Int) := by omega
        obtain ⟨x, hx⟩ : ∃ x, all[i]? = some x := ⟨_, List.getElem?_eq_getElem hlt⟩
        obtain ⟨y, hy⟩ : ∃ y, l[k]? = some y := ⟨_, List.getElem?_eq_getElem hkt⟩
        have HT := Lib.hid (sub_step hx hy)
        obtain ⟨b1, o1, rfl, _, x0, x1, x2, x3, x4, x5, x6, x7, x8, x9, x10, x11, x12⟩ := (hb.below hbl).at hx
        obtain ⟨b2, o2, rfl, _, y0, y1, y2, y3, y4, y5, y6, y7, y8, y9, y10, y11, y12⟩ := (ha.below hbl).at hy
        have hn := eq_run x y
        clear hx hy
        by_cases he : x = y
        · have HT' : Hid (l.isSublist all = (l.drop (k + 1)).isSublist (all.drop (i + 1))) := Lib.hid (by rw [HS.out, HT.out, if_pos he])
          have e2 : En.eq x y = true := En.eq_iff.2 he
          rw [e2] at hn
          clear he e2 HT HS
          go_wp2_with fail
          go_region
          go_wp2_with fail
          go_roundw
          case rel => exact ⟨k + 1, i + 1, by go_num, by go_num, by omega, by omega, HT', below_drewN hbl 1⟩
          case measure => simp [intOf]; omega
        · have HT' : Hid (l.isSublist all = (l.drop k).isSublist (all.drop (i + 1))) := Lib.hid (by rw [HS.out, HT.out, if_neg he])
          have e2 : En.eq x y = false := by rw [En.eq_decide, decide_eq_false he]
          rw [e2] at hn
          clear he e2 HT HS
          go_wp2_with fail
          go_region
          go_wp2_with fail
          go_roundw
          case rel => exact ⟨k, i + 1, rfl, by go_num, by omega, by omega, HT', below_drewN hbl 1⟩
          case measure => simp [intOf]; omega
      · have hkt' : ¬ (k : Int) < (l.length : Int) := by omega
        obtain rfl : k = l.length := by omega
        have HD : Hid (l.isSublist all = true) := Lib.hid (by rw [HS.out, sub_done])
        clear HS
        go_wp2_with fail
        go_ret
        exact ⟨ret_b HD.out.symm, hbl⟩
    · have hlt' : ¬ (i : Int) < (all.length : Int) := by omega
      obtain rfl : i = all.length := by omega
      by_cases hkt : k = l.length
      · subst hkt
        have HD : Hid (l.isSublist all = true) := Lib.hid (by rw [HS.out, sub_done])
        clear HS
        go_wp2_with fail
        go_ret
        exact ⟨ret_b HD.out.symm, hbl⟩
      · have HD : Hid (l.isSublist all = false) := Lib.hid (by rw [HS.out, sub_end hk, decide_eq_false hkt])
        have hke : ((k : Int) == (l.length : Int)) = false := by simp; omega
        clear HS hkt
        go_wp2_with fail
        go_ret
        exact ⟨ret_b HD.out.symm, hbl⟩

theorem lasts_take {xs : List En} {j : Nat} {x : En} (hx : xs[j]? = some x) : lastsN (xs.take (j + 1)) = lastsN (xs.take j) + (if x.a == 9223372036854775807 then 1 else 0) := by
  unfold lastsN
  rw [take_snocE xs hx, List.countP_append]
  congr 1
  by_cases h : (x.a == 9223372036854775807) = true
  · rw [if_pos h]; simpa using h
  · rw [if_neg h]; simpa using h
theorem lasts_le (xs : List En) : lastsN xs ≤ xs.length := List.countP_le_length
set_option maxRecDepth 100000 in
theorem lasts_any (a : Value) (l : List En) (w : World) (ha : EnRow w a l) (hl : l.length ≤ 100000) :
    Calls Try.prog 17 #[a] w fun e w' => e = .returned (.int .i64 (lastsN l : Nat)) ∧ w' = w := by
  obtain ⟨p1, c1, rfl⟩ := ha.slice
  go_enter Try.func17, Try.ntmps17
  go_wp2_with fail
  go_loopw [3, 4] (fun nv iv wr => ∃ i n : Nat, nv = .int .i64 (n : Int) ∧ iv = .int .i64 (i : Int) ∧ i ≤ l.length ∧ n ≤ i ∧ Hid (n = lastsN (l.take i)) ∧ wr = w) (fun _ iv _ => l.length - (intOf iv).toNat)
  case atStart => exact ⟨0, 0, rfl, rfl, Nat.zero_le _, Nat.le_refl _, Lib.hid rfl, rfl⟩
  case round =>
    obtain ⟨i, n, rfl, rfl, hi, hn, HN, rfl⟩ := hrel
    by_cases hlt : i < l.length
    · have hlt' : (i : Int) < (l.length : Int) := by omega
      have q0 : (0 : Int) ≤ (i : Int) := by omega
      obtain ⟨x, hx⟩ : ∃ x, l[i]? = some x := ⟨_, List.getElem?_eq_getElem hlt⟩
      have HT := Lib.hid (lasts_take hx)
      obtain ⟨b1, o1, rfl, _, x0, _⟩ := ha.at hx
      clear hx
      obtain ⟨q, hq⟩ : ∃ q : Bool, (x.a == 9223372036854775807) = q := ⟨_, rfl⟩
      cases q with
      | true =>
        have HT' : Hid (n + 1 = lastsN (l.take (i + 1))) := Lib.hid (by rw [HT.out, hq, ← HN.out]; rfl)
        clear HT HN
        go_wp2_with fail
        go_roundw
        case rel => exact ⟨i + 1, n + 1, by go_num, by go_num, by omega, by omega, HT', by first | rfl | trivial⟩
        case measure => simp [intOf]; omega
      | false =>
        have HT' : Hid (n = lastsN (l.take (i + 1))) := Lib.hid (by rw [HT.out, hq, ← HN.out]; rfl)
        clear HT HN
        go_wp2_with fail
        go_roundw
        case rel => exact ⟨i + 1, n, rfl, by go_num, by omega, by omega, HT', by first | rfl | trivial⟩
        case measure => simp [intOf]; omega
    · have hlt' : ¬ (i : Int) < (l.length : Int) := by omega
      have HT' : Hid ((n : Int) = (lastsN l : Nat)) := Lib.hid (by rw [HN.out, List.take_of_length_le (by omega)])
      clear HN
      go_wp2_with fail
      go_ret
      exact ⟨by rw [← HT'.out]; rfl, rfl⟩
end Go.Proofs.Ytnngkpggejmdkaa
