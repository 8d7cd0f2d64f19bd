/-
  The walk of the law FifoTurns.
-/
import Derived.Deep.Light
import Derived.Test.YtcllnblmcdgkiaaFAlive
namespace Go.Proofs.Ytcllnblmcdgkiaa
open Go.RowKit

/-- The slice value v reads as the bytes xs. -/
def RowB (w : World) (v : Value) (xs : List Int) : Prop :=
  (∀ x ∈ xs, 0 ≤ x ∧ x < 256) ∧ ((xs = [] ∧ ∃ a cap, v = .slice a 0 cap) ∨
  (∃ b off cap, v = .slice (some ⟨b, off, none⟩) xs.length cap ∧ 0 < xs.length ∧ b < w.heap.size ∧ ∀ j, j < xs.length → w.cell? ⟨b, off + j, none⟩ = some (.int .u8 (xs[j]?.getD 0))))
theorem RowB.slice {w : World} {v : Value} {xs : List Int} (h : RowB w v xs) : ∃ a c, v = .slice a xs.length c := by
  rcases h.2 with ⟨rfl, a, c, rfl⟩ | ⟨b, off, c, rfl, _⟩
  · exact ⟨a, c, rfl⟩
  · exact ⟨_, c, rfl⟩
theorem RowB.at {w W : World} {a : Option Addr} {n c : Nat} {xs : List Int} (h : RowB w (.slice a n c) xs) (hb : Below w.heap.size w W) {k : Nat} (hk : k < xs.length) :
    ∃ b off x, a = some ⟨b, off, none⟩ ∧ W.cell? ⟨b, off + k, none⟩ = some (.int .u8 x) ∧ 0 ≤ x ∧ x < 256 := by
  obtain ⟨hx, h⟩ := h
  rcases h with ⟨rfl, _⟩ | ⟨b, off, c', he, _, hlt, hc⟩
  · simp at hk
  · simp only [Value.slice.injEq] at he
    obtain ⟨rfl, -, -⟩ := he
    have hm : xs[k]?.getD 0 ∈ xs := mem_of_getDI hk
    exact ⟨b, off, _, rfl, (hb.cell (p := ⟨b, off + k, none⟩) hlt).trans (hc k hk), hx _ hm⟩

theorem pushX_ne {xs : List Int} {t : Int} (h0 : 0 ≤ t) (h1 : t < 32) : pushX 32 xs t ≠ [] := by
  unfold pushX
  rw [if_neg (by omega)]
  by_cases h : t ∈ xs
  · rw [if_pos h]; rintro rfl; simp at h
  · rw [if_neg h]
    by_cases h2 : xs.length = 32
    · rw [if_pos h2]; rintro rfl; simp at h2
    · rw [if_neg h2]; simp
theorem pushX_get {m : Nat} {xs : List Int} {t x : Int} {j : Nat} (h : xs[j]? = some x) : (pushX m xs t)[j]? = some x := by
  unfold pushX
  by_cases h1 : t < 0 ∨ 32 ≤ t
  · rw [if_pos h1]; exact h
  · rw [if_neg h1]
    by_cases h2 : t ∈ xs
    · rw [if_pos h2]; exact h
    · rw [if_neg h2]
      by_cases h3 : xs.length = m
      · rw [if_pos h3]; exact h
      · rw [if_neg h3, List.getElem?_append_left (List.getElem?_eq_some_iff.1 h).1]; exact h
theorem pushX_not {m : Nat} {xs : List Int} {t x : Int} (h : x ∉ xs) (hx : t ≠ x) : x ∉ pushX m xs t := by
  unfold pushX
  by_cases h1 : t < 0 ∨ 32 ≤ t
  · rw [if_pos h1]; exact h
  · rw [if_neg h1]
    by_cases h2 : t ∈ xs
    · rw [if_pos h2]; exact h
    · rw [if_neg h2]
      by_cases h3 : xs.length = m
      · rw [if_pos h3]; exact h
      · rw [if_neg h3]; simp [h, hx.symm]
theorem not_take {xs : List Int} (hn : xs.Nodup) {j : Nat} {x : Int} (h : xs[j]? = some x) : x ∉ xs.take j := by
  intro hm
  obtain ⟨i, hi, he⟩ := List.mem_take_iff_getElem.1 hm
  obtain ⟨hj, he2⟩ := List.getElem?_eq_some_iff.1 h
  exact (List.pairwise_iff_getElem.1 hn) i j (by omega) hj (by omega) (he.trans he2.symm)
theorem at_get {xs : List Int} (hn : xs.Nodup) {j : Nat} {x : Int} (h : xs[j]? = some x) : atV xs x = (j : Int) := atV_first h (not_take hn h)
/-- Who has so many ahead, at the head of round i: a less i, or it is gone. -/
def Turn (ys : List Int) (x : Int) (a i : Nat) : Prop := (i ≤ a ∧ ys[a - i]? = some x) ∨ (i = a + 1 ∧ x ∉ ys)
theorem Turn.pop {y x : Int} {t : List Int} {a i : Nat} (hn : (y :: t).Nodup) (h : Turn (y :: t) x a i) (hi : i ≤ a) : Turn t x a (i + 1) := by
  rcases h with ⟨_, h⟩ | ⟨h, _⟩
  · by_cases e : i = a
    · subst e
      rw [Nat.sub_self, List.getElem?_cons_zero] at h
      simp only [Option.some.injEq] at h
      subst h
      exact .inr ⟨rfl, (List.nodup_cons.1 hn).1⟩
    · rw [show a - i = (a - (i + 1)) + 1 by omega, List.getElem?_cons_succ] at h
      exact .inl ⟨by omega, h⟩
  · omega
theorem Turn.push {m : Nat} {ys : List Int} {t x : Int} {a i : Nat} (h : Turn ys x a i) (hx : t ≠ x) : Turn (pushX m ys t) x a i := by
  rcases h with ⟨h1, h2⟩ | ⟨h1, h2⟩
  · exact .inl ⟨h1, pushX_get h2⟩
  · exact .inr ⟨h1, pushX_not h2 hx⟩
theorem Turn.head {y x : Int} {t : List Int} {a i : Nat} (hn : (y :: t).Nodup) (h : Turn (y :: t) x a i) (hi : i ≤ a) : (y = x) ↔ (i = a) := by
  rcases h with ⟨_, h⟩ | ⟨h, _⟩
  · by_cases e : i = a
    · subst e
      rw [Nat.sub_self, List.getElem?_cons_zero] at h
      simp only [Option.some.injEq] at h
      exact ⟨fun _ => rfl, fun _ => h⟩
    · refine ⟨fun e2 => ?_, fun e2 => absurd e2 e⟩
      subst e2
      rw [show a - i = (a - (i + 1)) + 1 by omega, List.getElem?_cons_succ] at h
      exact absurd (List.mem_of_getElem? h) (List.nodup_cons.1 hn).1
  · omega
theorem Turn.at {ys : List Int} {x : Int} {a i : Nat} (hn : ys.Nodup) (h : Turn ys x a i) (hi : i ≤ a) : atV ys x = (a : Int) - (i : Int) := by
  rcases h with ⟨_, h⟩ | ⟨h, _⟩
  · rw [at_get hn h]; omega
  · omega

set_option maxRecDepth 100000 in
set_option maxHeartbeats 400000 in
theorem turns_big (a b : Option Addr) (n c m d : Nat) (q : Int) (w : World) (hn : 100 < n ∨ 100 < m) :
    Calls Try.prog 5 #[.slice a n c, .int .u8 q, .slice b m d] w fun e w' => e = .returned (.bool true) ∧ Below w.heap.size w w' := by
  by_cases h : 100 < n
  · have hl2 : (100 : Int) < (n : Int) := by omega
    have hl3 : decide ((100 : Int) < (n : Int)) = true := by simpa using hl2
    go_enter Try.func5, Try.ntmps5
    go_wp2_with fail
    refine (alive_any _).mono ?_
    rintro e w1 ⟨rfl, hb⟩
    go_wp2_with fail
    go_ret
    exact ⟨rfl, hb⟩
  · have hl2 : ¬ (100 : Int) < (n : Int) := by omega
    have hl3 : decide ((100 : Int) < (n : Int)) = false := by simpa using hl2
    have hm2 : (100 : Int) < (m : Int) := by omega
    have hm3 : decide ((100 : Int) < (m : Int)) = true := by simpa using hm2
    go_enter Try.func5, Try.ntmps5
    go_wp2_with fail
    refine (alive_any _).mono ?_
    rintro e w1 ⟨rfl, hb⟩
    go_wp2_with fail
    go_ret
    exact ⟨rfl, hb⟩

set_option maxRecDepth 100000 in
set_option maxHeartbeats 3200000 in
theorem turns_loop (a b : Option Addr) (c d : Nat) (q : Int) (hq0 : 0 ≤ q) (hq1 : q < 256) (ls ms : List Int) (w : World) (hl : ls.length ≤ 100) (hm : ms.length ≤ 100) (hls : RowB w (.slice a ls.length c) ls) (hms : RowB w (.slice b ms.length d) ms) :
    Calls Try.prog 5 #[.slice a ls.length c, .int .u8 q, .slice b ms.length d] w fun e w' => e = .returned (.bool true) ∧ Below w.heap.size w w' := by
  have hl2 : ¬ (100 : Int) < (ls.length : Int) := by omega
  have hl3 : decide ((100 : Int) < (ls.length : Int)) = false := by simpa using hl2
  have hm2 : ¬ (100 : Int) < (ms.length : Int) := by omega
  have hm3 : decide ((100 : Int) < (ms.length : Int)) = false := by simpa using hm2
  have hnew := m_new (w0 := w) w 32 (by omega) (by omega) (But.refl [] w)
  go_enter Try.func5, Try.ntmps5
  go_wp2_with fail
  refine hnew.mono ?_
  rintro e w1 ⟨B, rfl, hQ, -, -⟩
  clear hnew hl2 hl3 hm2 hm3
  go_wp2_with fail
  go_loopw [9] (fun iv wr => ∃ (k : Nat) (xs : List Int), k ≤ ls.length ∧ iv = .int .i64 (k : Int) ∧ Mine w wr B 32 xs ∧ Hid (xs = [] → k = 0)) (fun iv _ => ls.length - (intOf iv).toNat)
  case atStart => exact ⟨0, [], Nat.zero_le _, rfl, hQ, Lib.hid (fun _ => rfl)⟩
  case round =>
    clear hQ
    obtain ⟨k, xs, hk, rfl, hQ, HE⟩ := hrel
    by_cases hlt : k < ls.length
    · have hlt' : (k : Int) < (ls.length : Int) := by omega
      have k0 : (0 : Int) ≤ (k : Int) := by omega
      obtain ⟨ab, ao, v, rfl, hcell, hv0, hv1⟩ := hls.at hQ.below hlt
      have hwv : IntKind.i64.wrap v = v := by rw [IntKind.wrap_i64]; omega
      have hpush := m_push (v % 32) wr hQ rfl rfl
      have HP := Lib.hid (pushX_ne (xs := xs) (t := v % 32) (by omega) (by omega))
      clear hQ HE
      go_wp2_with fail
      refine hpush.mono ?_
      rintro e w2 ⟨rfl, hQ2, -⟩
      clear hpush hcell
      go_wp2_with fail
      go_roundw
      case rel => exact ⟨k + 1, _, by omega, by go_num, hQ2, Lib.hid (fun e => absurd e HP.out)⟩
      case measure => simp [intOf]; omega
    · obtain rfl : k = ls.length := by omega
      have hlt' : ¬ ((ls.length : Int) < (ls.length : Int)) := by omega
      clear hls hk
      have hlen := fun w h => len_any (B := B) (m := 32) (l := xs) w h
      by_cases hx0 : xs = []
      · have h0 := HE.out hx0
        subst hx0
        have h0' : ((ls.length : Int) == 0) = true := by rw [h0]; rfl
        have h0'' : (ls.length : Int) = 0 := by omega
        clear HE hl hlt
        go_wp2_with fail
        refine (hlen _ hQ.fif).mono ?_
        rintro e w3 ⟨rfl, rfl⟩
        go_wp2_with fail
        refine (alive_any _).mono ?_
        rintro e w4 ⟨rfl, hb⟩
        have hbe := (hQ.later hb).below
        clear hQ hb
        go_wp2_with fail
        go_ret
        exact ⟨rfl, hbe⟩
      · have hpos : 0 < xs.length := List.length_pos_iff.mpr hx0
        have hle := hQ.fif.le
        have hne : ((xs.length : Int) == 0) = false := by simp; omega
        have hne2 : ¬ (xs.length : Int) = 0 := by omega
        obtain ⟨j, hj⟩ : ∃ j : Nat, q % (xs.length : Int) = (j : Int) := ⟨(q % (xs.length : Int)).toNat, by rw [Int.toNat_of_nonneg (Int.emod_nonneg _ hne2)]⟩
        have hj2 : (j : Int) < (xs.length : Int) := by rw [← hj]; exact Int.emod_lt_of_pos _ (by omega)
        have hj1 : (0 : Int) ≤ (j : Int) := by omega
        have hjt : q.tmod (xs.length : Int) = (j : Int) := by rw [Int.tmod_eq_emod_of_nonneg hq0]; exact hj
        have hjl : j < xs.length := by omega
        have hwq : IntKind.i64.wrap q = q := by rw [IntKind.wrap_i64]; omega
        have hll : ((xs.length : Int) != (xs.length : Int)) = false := by simp
        obtain ⟨x, hx⟩ : ∃ x, xs[j]? = some x := ⟨_, List.getElem?_eq_getElem hjl⟩
        have hxd : xs[j]?.getD 0 = x := by rw [hx]; rfl
        have HAT := Lib.hid (at_get hQ.fif.nd hx)
        have HT : Hid (Turn xs x j 0) := Lib.hid (.inl ⟨by omega, by simpa using hx⟩)
        clear HE hx hx0
        go_wp2_with fail
        refine (hlen _ hQ.fif).mono ?_
        rintro e w3 ⟨rfl, rfl⟩
        clear hlen
        go_wp2_with fail
        refine (list_any _ hQ.fif).mono ?_
        rintro e w4 ⟨v, rfl, hown, hb4⟩
        have hQ4 := hQ.later hb4
        have hrow := RowI.of_owns hown
        obtain ⟨p, pc, rfl⟩ := hrow.slice
        obtain ⟨pb, po, rfl, -, hpc⟩ := hrow.at hjl
        rw [hxd] at hpc
        clear hQ hown hb4 hrow hxd
        go_wp2_with fail
        refine (at_any x _ hQ4.fif).mono ?_
        rintro e w5 ⟨rfl, hb5⟩
        have hQ5 := hQ4.later hb5
        rw [HAT.out]
        clear hQ4 hpc hb5 HAT
        go_wp2_with fail
        go_loopw [14] (fun iv wr => ∃ (i : Nat) (ys : List Int), i ≤ j + 1 ∧ iv = .int .i64 (i : Int) ∧ Mine w wr B 32 ys ∧ Hid (Turn ys x j i)) (fun iv _ => j + 1 - (intOf iv).toNat)
        case atStart => exact ⟨0, xs, by omega, rfl, hQ5, HT⟩
        case round =>
          clear hQ5 HT
          obtain ⟨i, ys, hi, rfl, hQ, HT⟩ := hrel
          have HN := Lib.hid hQ.fif.nd
          by_cases hlt : i ≤ j
          · have hlt1 : (i : Int) ≤ (j : Int) := by omega
            have hlt2 : decide ((i : Int) ≤ (j : Int)) = true := by simpa using hlt
            have hlt3 : decide ((j : Int) < (xs.length : Int)) = true := by simpa using hj2
            have hwi : IntKind.i64.wrap ((j : Int) - (i : Int)) = (j : Int) - (i : Int) := by rw [IntKind.wrap_i64]; omega
            have hbb : ((j : Int) - (i : Int) != (j : Int) - (i : Int)) = false := by simp
            have hat := at_any x _ hQ.fif
            rw [HT.out.at HN.out hlt] at hat
            have HNE : Hid (∃ y t, ys = y :: t) := Lib.hid (by
              cases ys with
              | nil => rcases HT.out with ⟨_, h⟩ | ⟨h, _⟩
                       · simp at h
                       · omega
              | cons y t => exact ⟨y, t, rfl⟩)
            go_wp2_with fail
            refine hat.mono ?_
            rintro e w6 ⟨rfl, hb6⟩
            have hQ6 := hQ.later hb6
            clear hat hQ hb6
            obtain ⟨y, t, rfl⟩ := HNE.out
            clear HNE
            have HH := Lib.hid (HT.out.head HN.out hlt)
            have HT2 := Lib.hid (HT.out.pop HN.out hlt)
            clear HT
            go_wp2_with fail
            refine (m_pop (x := y) (e := 0) (ys := t) _ hQ6 rfl (by simp [popE]) rfl).mono ?_
            rintro e w7 ⟨rfl, hQ7, -⟩
            clear hQ6
            by_cases e : i = j
            · obtain rfl : y = x := HH.out.2 e
              have hyx : (y == y) = true := by simp
              have hij : ((i : Int) == (j : Int)) = true := by simp; omega
              clear e HH
              by_cases hmi : i < ms.length
              · have hmi1 : (i : Int) < (ms.length : Int) := by omega
                have hmi2 : decide ((i : Int) < (ms.length : Int)) = true := by simpa using hmi
                have i0 : (0 : Int) ≤ (i : Int) := by omega
                obtain ⟨mb, mo, v, rfl, hcell, hv0, hv1⟩ := hms.at hQ7.below hmi
                have hwv : IntKind.i64.wrap v = v := by rw [IntKind.wrap_i64]; omega
                by_cases hvx : v % 32 = y
                · have hvx1 : (v % 32 != y) = false := by simp [hvx]
                  go_wp2_with fail
                  go_roundw
                  case rel => exact ⟨i + 1, t, by omega, by go_num, hQ7, HT2⟩
                  case measure => simp [intOf]; omega
                · have hvx1 : (v % 32 != y) = true := by simp [hvx]
                  have HT3 := Lib.hid (HT2.out.push (m := 32) hvx)
                  go_wp2_with fail
                  refine (m_push (v % 32) _ hQ7 rfl rfl).mono ?_
                  rintro e w8 ⟨rfl, hQ8, -⟩
                  clear hQ7 hcell
                  go_wp2_with fail
                  go_roundw
                  case rel => exact ⟨i + 1, _, by omega, by go_num, hQ8, HT3⟩
                  case measure => simp [intOf]; omega
              · have hmi1 : ¬ (i : Int) < (ms.length : Int) := by omega
                have hmi2 : decide ((i : Int) < (ms.length : Int)) = false := by simpa using hmi
                go_wp2_with fail
                go_roundw
                case rel => exact ⟨i + 1, t, by omega, by go_num, hQ7, HT2⟩
                case measure => simp [intOf]; omega
            · have hyx : (y == x) = false := by simpa using fun e2 => e (HH.out.1 e2)
              have hij : ((i : Int) == (j : Int)) = false := by simp; omega
              clear e HH
              by_cases hmi : i < ms.length
              · have hmi1 : (i : Int) < (ms.length : Int) := by omega
                have hmi2 : decide ((i : Int) < (ms.length : Int)) = true := by simpa using hmi
                have i0 : (0 : Int) ≤ (i : Int) := by omega
                obtain ⟨mb, mo, v, rfl, hcell, hv0, hv1⟩ := hms.at hQ7.below hmi
                have hwv : IntKind.i64.wrap v = v := by rw [IntKind.wrap_i64]; omega
                by_cases hvx : v % 32 = x
                · have hvx1 : (v % 32 != x) = false := by simp [hvx]
                  go_wp2_with fail
                  go_roundw
                  case rel => exact ⟨i + 1, t, by omega, by go_num, hQ7, HT2⟩
                  case measure => simp [intOf]; omega
                · have hvx1 : (v % 32 != x) = true := by simp [hvx]
                  have HT3 := Lib.hid (HT2.out.push (m := 32) hvx)
                  go_wp2_with fail
                  refine (m_push (v % 32) _ hQ7 rfl rfl).mono ?_
                  rintro e w8 ⟨rfl, hQ8, -⟩
                  clear hQ7 hcell
                  go_wp2_with fail
                  go_roundw
                  case rel => exact ⟨i + 1, _, by omega, by go_num, hQ8, HT3⟩
                  case measure => simp [intOf]; omega
              · have hmi1 : ¬ (i : Int) < (ms.length : Int) := by omega
                have hmi2 : decide ((i : Int) < (ms.length : Int)) = false := by simpa using hmi
                go_wp2_with fail
                go_roundw
                case rel => exact ⟨i + 1, t, by omega, by go_num, hQ7, HT2⟩
                case measure => simp [intOf]; omega
          · obtain rfl : i = j + 1 := by omega
            have hlt1 : ¬ ((j : Int) + 1 ≤ (j : Int)) := by omega
            have hlt2 : decide ((j : Int) + 1 ≤ (j : Int)) = false := decide_eq_false (by omega)
            have hj3 : decide ((0 : Int) ≤ (j : Int)) = true := by simp
            have hhas := has_any x _ hQ.fif
            have hno : x ∉ ys := by
              rcases HT.out with ⟨h, _⟩ | ⟨_, h⟩
              · omega
              · exact h
            simp only [hno, decide_false] at hhas
            clear hms HT HN hno
            go_wp2_with fail
            refine hhas.mono ?_
            rintro e w6 ⟨rfl, hb6⟩
            have hQ6 := hQ.later hb6
            clear hhas hQ hb6
            go_wp2_with fail
            refine (alive_any _).mono ?_
            rintro e w7 ⟨rfl, hb7⟩
            have hbe := (hQ6.later hb7).below
            clear hQ6 hb7
            go_wp2_with fail
            go_ret
            exact ⟨rfl, hbe⟩

theorem turns_any (u v : Value) (q : Int) (hq0 : 0 ≤ q) (hq1 : q < 256) (ls ms : List Int) (w : World) (hls : RowB w u ls) (hms : RowB w v ms) :
    Calls Try.prog 5 #[u, .int .u8 q, v] w fun e w' => e = .returned (.bool true) ∧ Below w.heap.size w w' := by
  obtain ⟨a, c, rfl⟩ := hls.slice
  obtain ⟨b, d, rfl⟩ := hms.slice
  by_cases hn : 100 < ls.length ∨ 100 < ms.length
  · exact turns_big a b _ c _ d q w hn
  · exact turns_loop a b c d q hq0 hq1 ls ms w (by omega) (by omega) hls hms
end Go.Proofs.Ytcllnblmcdgkiaa
