/-
  The walk of the law OrderMost.
-/
import Derived.Deep.Light
import Derived.Test.YtmfjklfjbcjeiaaOMostM
namespace Go.Proofs.Ytmfjklfjbcjeiaa
open Go.RowKit

set_option maxRecDepth 100000 in
set_option maxHeartbeats 400000 in
theorem most_big (a : Option Addr) (n c : Nat) (q : Int) (w : World) (hn : 300 < n) :
    Calls Try.prog 4 #[.int .u8 q, .slice a n c] w fun e w' => e = .returned (.bool true) ∧ Below w.heap.size w w' := by
  have hl2 : (300 : Int) < (n : Int) := by omega
  have hl3 : decide ((300 : Int) < (n : Int)) = true := by simpa using hl2
  go_enter Try.func4, Try.ntmps4
  go_wp2_with fail
  refine (alive_any _).mono ?_
  rintro e w1 ⟨rfl, hb⟩
  go_wp2_with fail
  go_ret
  exact ⟨rfl, hb⟩

set_option maxRecDepth 100000 in
set_option maxHeartbeats 3200000 in
theorem most_loop (a : Option Addr) (c : Nat) (q : Int) (hq0 : 0 ≤ q) (hq1 : q < 256) (ls : List Int) (w : World) (hl : ls.length ≤ 300) (hls : RowB w (.slice a ls.length c) ls) :
    Calls Try.prog 4 #[.int .u8 q, .slice a ls.length c] w fun e w' => e = .returned (.bool true) ∧ Below w.heap.size w w' := by
  have hl2 : ¬ (300 : Int) < (ls.length : Int) := by omega
  have hl3 : decide ((300 : Int) < (ls.length : Int)) = false := by simpa using hl2
  have hwq : IntKind.i64.wrap q = q := by rw [IntKind.wrap_i64]; omega
  obtain ⟨m, hm⟩ : ∃ m : Nat, (m : Int) = 1 + q % 6 := ⟨(1 + q % 6).toNat, by rw [Int.toNat_of_nonneg (by omega)]⟩
  have hm1 : 1 ≤ m := by omega
  have hm6 : m ≤ 6 := by omega
  have hwm : IntKind.i64.wrap (1 + q % 6) = (m : Int) := by rw [IntKind.wrap_i64]; omega
  have hmz : ((m : Int) == 0) = false := by simp; omega
  have hmz2 : ¬ (m : Int) = 0 := by omega
  have HM := Lib.hid hm
  clear hm
  have hnew := m_new (w0 := w) w m hm1 hm6 (But.refl [] w)
  go_enter Try.func4, Try.ntmps4
  go_wp2_with fail
  refine hnew.mono ?_
  rintro e w1 ⟨B, rfl, hQ, -, -⟩
  clear hnew hl2 hl3 hwq hwm
  go_wp2_with fail
  go_loopw [8] (fun iv wr => ∃ (k : Nat) (xs : List Int), k ≤ ls.length ∧ iv = .int .i64 (k : Int) ∧ Mine w wr B m xs) (fun iv _ => ls.length - (intOf iv).toNat)
  case atStart => exact ⟨0, _, Nat.zero_le _, rfl, hQ⟩
  case round =>
    clear hQ
    obtain ⟨k, xs, hk, rfl, hQ⟩ := hrel
    by_cases hlt : k < ls.length
    · have hlt' : (k : Int) < (ls.length : Int) := by omega
      have k0 : (0 : Int) ≤ (k : Int) := by omega
      obtain ⟨ab, ao, v, rfl, hcell, hv0, hv1⟩ := hls.at hQ.below hlt
      have hwv : IntKind.i64.wrap v = v := by rw [IntKind.wrap_i64]; omega
      have hvt : v.tmod (m : Int) = v % (m : Int) := Int.tmod_eq_emod_of_nonneg hv0
      have htook := m_took (v % (m : Int)) wr hQ rfl rfl
      clear hQ
      go_wp2_with fail
      refine htook.mono ?_
      rintro e w2 ⟨rfl, hQ2, -⟩
      clear htook hcell
      go_wp2_with fail
      go_roundw
      case rel => exact ⟨k + 1, _, by omega, by go_num, hQ2⟩
      case measure => simp [intOf]; omega
    · obtain rfl : k = ls.length := by omega
      have hlt' : ¬ ((ls.length : Int) < (ls.length : Int)) := by omega
      clear hls hk hlt
      have hlen := hQ.ord.len
      have HLEN := Lib.hid hlen
      have HPM := Lib.hid hQ.ord.perm
      have hxm : ((xs.length : Int) != (m : Int)) = false := by simp [hlen]
      have hxm2 : (xs.length : Int) = (m : Int) := by omega
      have hwm1 : IntKind.i64.wrap ((m : Int) - 1) = (m : Int) - 1 := by rw [IntKind.wrap_i64]; omega
      have hml : (m : Int) - 1 = ((m - 1 : Nat) : Int) := by omega
      have hmi0 : (0 : Int) ≤ (m : Int) - 1 := by omega
      have hmi1 : (m : Int) - 1 < (m : Int) := by omega
      have hmn : ((m : Int) - 1).toNat = m - 1 := by omega
      go_wp2_with fail
      refine (list_any _ hQ.ord).mono ?_
      rintro e w4 ⟨v, rfl, hown, hb4⟩
      have hQ4 := hQ.later hb4
      have hBn : B < wr.heap.size := hQ.ord.lt
      have hrow := RowI.of_owns hown
      obtain ⟨nb, hnb⟩ : ∃ nb, nb = wr.heap.size := ⟨_, rfl⟩
      rw [← hnb] at hown hBn
      have HBn := Lib.hid hBn
      obtain ⟨p, pc, rfl⟩ := hrow.slice
      obtain ⟨pb, po, rfl, -, hpc⟩ := hrow.at (k := m - 1) (by omega)
      obtain ⟨z, hz⟩ : ∃ z, z = xs[m - 1]?.getD 0 := ⟨_, rfl⟩
      rw [← hz] at hpc
      have HZ := Lib.hid hz
      rw [hlen] at hown ⊢
      clear hQ hb4 hrow hz hnb hBn hlen hxm hxm2
      go_wp2_with fail
      have H1 := Lib.hid (shl_full hm6)
      have H2 := Lib.hid (sub_full hm6)
      obtain ⟨P, hP⟩ : ∃ P : Int, P = ((2 ^ m : Nat) : Int) := ⟨_, rfl⟩
      obtain ⟨S, hS⟩ : ∃ S : Nat, S = 2 ^ m - 1 := ⟨_, rfl⟩
      have hs1 : IntKind.u64.wrap ((2 : Int) ^ m) = P := H1.out.trans hP.symm
      have hs2 : IntKind.u64.wrap (P - 1) = (S : Int) := by rw [hP, hS]; exact H2.out
      have hwu : IntKind.u64.wrap (m : Int) = (m : Int) := by rw [IntKind.wrap_u64]; omega
      have hmin : min m 64 = m := by omega
      have hSl : S < 18446744073709551616 := by rw [hS]; exact full_lt hm6
      have HS := Lib.hid hS
      have H0 : Hid (rot xs 0 = xs) := Lib.hid (rot_zero xs)
      rw [← H0.out] at hQ4
      clear hP hS H0 H1 H2 hml hmn
      go_loopw [11, 12] (fun sv iv wr => ∃ i s : Nat, i ≤ m ∧ iv = .int .i64 (i : Int) ∧ sv = .int .u64 (s : Int) ∧ s < 18446744073709551616 ∧ Hid (s = ofL (xs.take i)) ∧ Mine w wr B m (rot xs i) ∧ wr.ownsRow nb 3 1 (.slice (some ⟨pb, po, none⟩) m pc) m (I64 xs)) (fun _ iv _ => m - (intOf iv).toNat)
      case atStart => exact ⟨0, 0, Nat.zero_le _, rfl, rfl, by omega, Lib.hid rfl, hQ4, hown⟩
      case round =>
        clear hQ4 hown hpc
        obtain ⟨i, s, hi, rfl, rfl, hs, HO0, hQ, hown⟩ := hrel
        by_cases hlt : i < m
        · have hltI : (i : Int) < (m : Int) := by omega
          have i0 : (0 : Int) ≤ (i : Int) := by omega
          have hcell := own_cell hown HLEN.out hlt
          have HE := Lib.hid (last_iff HPM.out hlt)
          have HXM := Lib.hid ((HPM.out.mem (xs[i]?.getD 0)).1 (mem_of_getDI (by rw [HLEN.out]; exact hlt)))
          have HPK := Lib.hid (rot_pick hm6 HPM.out hlt)
          have HA1 := Lib.hid (rot_age HPM.out hlt)
          have HA2 := Lib.hid (rot_age2 HPM.out hlt)
          have HTE := Lib.hid (rot_tookE (xs := xs) (i := i) (by rw [HLEN.out]; exact hlt))
          have HTX := Lib.hid (rot_took (xs := xs) (i := i) (by rw [HLEN.out]; exact hlt))
          have HSN := Lib.hid (take_snocI xs i (by rw [HLEN.out]; exact hlt))
          rw [← HZ.out] at HE
          obtain ⟨x, hx⟩ : ∃ x, x = xs[i]?.getD 0 := ⟨_, rfl⟩
          rw [← hx] at hcell HE HXM HPK HA1 HA2 HTE HTX HSN
          obtain ⟨x0, x1⟩ := HXM.out
          clear hx HXM
          have hpick := m_pick (x := x) (b := true) (z := (S : Int)) S wr hSl hQ rfl (by rw [HS.out]; exact HPK.out.1.symm) (by rw [HS.out]; exact HPK.out.2.symm)
          have HO : Hid (withN s x = ofL (xs.take (i + 1))) := Lib.hid (by rw [HSN.out, ofL_snoc, ← HO0.out])
          have hor := or_with hs x
          have hwl := withN_lt hs x
          have hwx : IntKind.u64.wrap x = x := by rw [IntKind.wrap_u64]; omega
          have hsh := shl_bit (k := x) x0
          rw [Nat.min_eq_left (by omega)] at hsh
          clear HSN HO0 HPK hQ
          go_wp2_with fail
          refine hpick.mono ?_
          rintro e w3 ⟨rfl, hQ3, hb3⟩
          have hcell3 := hb3.cell hcell (by simp)
          have hown3 := own_keep hown hb3 (by simp)
          clear hpick hown hb3 hcell
          by_cases hie : i = m - 1
          · have t1 : (x == z) = true := by rw [beq_iff_eq]; exact HE.out.2 hie
            have t2 : ((i : Int) == (m : Int) - 1) = true := by rw [beq_iff_eq]; omega
            clear HE hie
            go_wp2_with fail
            refine (m_age (e := (m : Int) - 1) x _ hQ3 HA1.out.symm).mono ?_
            rintro e w4 ⟨rfl, hQ4, hb4⟩
            have hown4 := own_keep hown3 hb4 (by simp)
            clear HA1 hQ3 hown3 hb4 hcell3
            go_wp2_with fail
            refine (m_took (e := 0) (ys := rot xs (i + 1)) x _ hQ4 HTE.out.symm HTX.out.symm).mono ?_
            rintro e w5 ⟨rfl, hQ5, hb5⟩
            have hown5 := own_keep hown4 hb5 (by simpa using HBn.out)
            clear hQ4 hown4 hb5 HTE HTX
            go_wp2_with fail
            refine (m_age (e := 0) x _ hQ5 HA2.out.symm).mono ?_
            rintro e w6 ⟨rfl, hQ6, hb6⟩
            have hown6 := own_keep hown5 hb6 (by simp)
            clear hQ5 hown5 hb6 HA2
            go_wp2_with fail
            go_roundw
            case rel => exact ⟨i + 1, withN s x, by omega, by go_num, rfl, hwl, HO, hQ6, hown6⟩
            case measure => simp [intOf]; omega
          · have t1 : (x == z) = false := by rw [beq_eq_false_iff_ne]; exact fun e => hie (HE.out.1 e)
            have t2 : ((i : Int) == (m : Int) - 1) = false := by rw [beq_eq_false_iff_ne]; omega
            clear HE hie
            go_wp2_with fail
            refine (m_age (e := (m : Int) - 1) x _ hQ3 HA1.out.symm).mono ?_
            rintro e w4 ⟨rfl, hQ4, hb4⟩
            have hown4 := own_keep hown3 hb4 (by simp)
            clear HA1 hQ3 hown3 hb4 hcell3
            go_wp2_with fail
            refine (m_took (e := 0) (ys := rot xs (i + 1)) x _ hQ4 HTE.out.symm HTX.out.symm).mono ?_
            rintro e w5 ⟨rfl, hQ5, hb5⟩
            have hown5 := own_keep hown4 hb5 (by simpa using HBn.out)
            clear hQ4 hown4 hb5 HTE HTX
            go_wp2_with fail
            refine (m_age (e := 0) x _ hQ5 HA2.out.symm).mono ?_
            rintro e w6 ⟨rfl, hQ6, hb6⟩
            have hown6 := own_keep hown5 hb6 (by simp)
            clear hQ5 hown5 hb6 HA2
            go_wp2_with fail
            go_roundw
            case rel => exact ⟨i + 1, withN s x, by omega, by go_num, rfl, hwl, HO, hQ6, hown6⟩
            case measure => simp [intOf]; omega
        · obtain rfl : i = m := by omega
          have hltI : ¬ ((i : Int) < (i : Int)) := by omega
          have HR : Hid (rot xs i = xs) := Lib.hid (by have := rot_all xs; rwa [HLEN.out] at this)
          rw [HR.out] at hQ
          obtain rfl : s = S := by
            have h1 := HO0.out
            rw [List.take_of_length_le (by rw [HLEN.out]; exact Nat.le_refl _), ofL_full hm6 HPM.out] at h1
            rw [h1, HS.out]
          have hss : ((s : Int) == (s : Int)) = true := by simp
          have hr0 : RowI wr (.slice (some ⟨pb, po, none⟩) i pc) xs := RowI.of_owns (base := nb) (by rw [HLEN.out]; exact hown)
          clear HO0 HR hlt hmz hmz2 hwm1 hmi0 hmi1 hown HS HZ HBn
          go_wp2_with fail
          refine (list_any _ hQ.ord).mono ?_
          rintro e w7 ⟨v2, rfl, hown2, hb7⟩
          have hQ7 := hQ.later hb7
          have hr2 := RowI.of_owns hown2
          have hr1 := hr0.below hb7
          have hsame := same_any _ _ _ _ _ hr2 hr1 (by have := HLEN.out; omega) (by have := HLEN.out; omega)
          obtain ⟨p2, c2, rfl⟩ := hr2.slice
          clear hQ hown2 hb7 hr2 hr1 hr0
          go_wp2_with fail
          refine hsame.mono ?_
          rintro e w8 ⟨rfl, hb8⟩
          have hQ8 := hQ7.later hb8
          clear hsame hQ7 hb8
          simp only [decide_true]
          go_wp2_with fail
          refine (alive_any _).mono ?_
          rintro e w9 ⟨rfl, hb9⟩
          have hbe := (hQ8.later hb9).below
          clear hQ8 hb9
          go_wp2_with fail
          go_ret
          exact ⟨rfl, hbe⟩

theorem most_any (u : Value) (q : Int) (hq0 : 0 ≤ q) (hq1 : q < 256) (ls : List Int) (w : World) (hls : RowB w u ls) :
    Calls Try.prog 4 #[.int .u8 q, u] w fun e w' => e = .returned (.bool true) ∧ Below w.heap.size w w' := by
  obtain ⟨a, c, rfl⟩ := hls.slice
  by_cases hn : 300 < ls.length
  · exact most_big a _ c q w hn
  · exact most_loop a c q hq0 hq1 ls w (by omega) hls
end Go.Proofs.Ytmfjklfjbcjeiaa
