/-
  The walk of the law OrderFair.
-/
import Derived.Deep.Light
import Derived.Test.YtmfjklfjbcjeiaaOFairM
namespace Go.Proofs.Ytmfjklfjbcjeiaa
open Go.RowKit

set_option maxRecDepth 100000 in
set_option maxHeartbeats 400000 in
theorem fair_big (a : Option Addr) (n c : Nat) (q : Int) (w : World) (hn : 300 < n) :
    Calls Try.prog 3 #[.int .u8 q, .slice a n c] w fun e w' => e = .returned (.bool true) ∧ Below w.heap.size w w' := by
  have hl2 : (300 : Int) < (n : Int) := by omega
  have hl3 : decide ((300 : Int) < (n : Int)) = true := by simpa using hl2
  go_enter Try.func3, Try.ntmps3
  go_wp2_with fail
  refine (alive_any _).mono ?_
  rintro e w1 ⟨rfl, hb⟩
  go_wp2_with fail
  go_ret
  exact ⟨rfl, hb⟩

set_option maxRecDepth 100000 in
set_option maxHeartbeats 3200000 in
theorem fair_loop (a : Option Addr) (c : Nat) (q : Int) (hq0 : 0 ≤ q) (hq1 : q < 256) (ls : List Nat) (w : World) (hl : ls.length ≤ 300) (hls : RowS w (.slice a ls.length c) ls) :
    Calls Try.prog 3 #[.int .u8 q, .slice a ls.length c] w fun e w' => e = .returned (.bool true) ∧ Below w.heap.size w w' := by
  obtain ⟨i0, hi, hz0, hz1, hz2⟩ := info_parts infoInt
  have hl2 : ¬ (300 : Int) < (ls.length : Int) := by omega
  have hl3 : decide ((300 : Int) < (ls.length : Int)) = false := by simpa using hl2
  have hwq : IntKind.i64.wrap q = q := by rw [IntKind.wrap_i64]; omega
  obtain ⟨m, hm⟩ : ∃ m : Nat, (m : Int) = 1 + q % 6 := ⟨(1 + q % 6).toNat, by rw [Int.toNat_of_nonneg (by omega)]⟩
  have hm1 : 1 ≤ m := by omega
  have hm6 : m ≤ 6 := by omega
  have hwm : IntKind.i64.wrap (1 + q % 6) = (m : Int) := by rw [IntKind.wrap_i64]; omega
  have HM := Lib.hid hm
  clear hm
  have hnew := m_new (w0 := w) w m hm1 hm6 (But.refl [] w)
  go_enter Try.func3, Try.ntmps3
  go_wp2_with fail
  refine hnew.mono ?_
  rintro e w1 ⟨B, rfl, hQ, -, -⟩
  clear hnew hl2 hl3 hwq hwm
  go_wp2_with (at_make; refine wpList_make_full _ rfl _ _ 28 rfl w1.heap.size 3 i0 (.int .i64 0) 1 Try.underlying28 hi hz0 hz1 .i64 .i64 _ _ m rfl rfl rfl rfl (by rw [hz2]; omega) (by unfold maxLen; omega) (Nat.le_refl _) ?_; intro w2 hown2 hgrow2)
  have hBlt := hQ.ord.lt
  have hA2 := Arr.made hown2
  have hQ2 := hQ.fresh (But.of_none hgrow2 [])
  have hV0 : w.heap.size ≤ w1.heap.size := hQ.but.size
  obtain ⟨V, hV⟩ : ∃ V, V = w1.heap.size := ⟨_, rfl⟩
  rw [← hV] at hA2 hV0 hBlt ⊢
  have hVB : V ≠ B := by omega
  have HV := Lib.hid hV0
  have HVB := Lib.hid hVB
  have HF := Lib.hid (FairI.start (m := m) (xs := rise m) hQ.ord.len)
  clear hown2 hgrow2 hQ hV hV0 hBlt hVB hi hz0 hz1 hz2
  go_wp2_with fail
  have H1 := Lib.hid (shl_full hm6)
  have H2 := Lib.hid (sub_full hm6)
  obtain ⟨P2, hP⟩ : ∃ P : Int, P = ((2 ^ m : Nat) : Int) := ⟨_, rfl⟩
  obtain ⟨S, hS⟩ : ∃ S : Nat, S = 2 ^ m - 1 := ⟨_, rfl⟩
  have hs1 : IntKind.u64.wrap ((2 : Int) ^ m) = P2 := H1.out.trans hP.symm
  have hs2 : IntKind.u64.wrap (P2 - 1) = (S : Int) := by rw [hP, hS]; exact H2.out
  have hwu : IntKind.u64.wrap (m : Int) = (m : Int) := by rw [IntKind.wrap_u64]; omega
  have hmin : min m 64 = m := by omega
  have hSl : S < 18446744073709551616 := by rw [hS]; exact full_lt hm6
  have hwm1 : IntKind.i64.wrap ((m : Int) - 1) = (m : Int) - 1 := by rw [IntKind.wrap_i64]; omega
  have HS := Lib.hid hS
  clear hP hS H1 H2
  go_loopw [9] (fun iv wr => ∃ (i : Nat) (xs P : List Int), i ≤ ls.length ∧ iv = .int .i64 (i : Int) ∧ Mine w wr B m xs ∧ Arr wr V P ∧ Hid (FairI m xs P)) (fun iv _ => ls.length - (intOf iv).toNat)
  case atStart => exact ⟨0, _, _, Nat.zero_le _, rfl, hQ2, hA2, HF⟩
  case round =>
    clear hQ2 hA2 HF
    obtain ⟨i, xs, P, hi, rfl, hQ, hA, HF⟩ := hrel
    by_cases hlt : i < ls.length
    · have hltI : (i : Int) < (ls.length : Int) := by omega
      have i0 : (0 : Int) ≤ (i : Int) := by omega
      obtain ⟨ab, ao, v, rfl, hcell, hv⟩ := hls.at hQ.below hlt
      have HPM := Lib.hid hQ.ord.perm
      have hand := u64_and_nat v S hv hSl
      obtain ⟨s, hs⟩ : ∃ s, s = v &&& S := ⟨_, rfl⟩
      rw [← hs] at hand
      have hs2m : Hid (s < 2 ^ m) := Lib.hid (by rw [hs, HS.out]; exact and_full_lt v m)
      have hsl : s < 18446744073709551616 := by rw [hs]; exact Nat.lt_of_le_of_lt Nat.and_le_left hv
      clear hs hv
      obtain ⟨k, hk⟩ : ∃ k, k = pickV s xs := ⟨_, rfl⟩
      have HK := Lib.hid hk
      by_cases h0 : s = 0
      · have hb : pickB s xs = false := by rw [pickB_eq]; exact decide_eq_false (fun e => (pick_is HPM.out hm6 hs2m.out).1 e h0)
        have hpick := m_pick (x := k) (b := false) (z := (s : Int)) s wr hsl hQ rfl hk hb.symm
        have hz : (s : Int) = 0 := by omega
        have hz1 : ((s : Int) != 0) = false := by simp [hz]
        clear hb hk hz h0
        go_wp2_with fail
        refine hpick.mono ?_
        rintro e w3 ⟨rfl, hQ3, hb3⟩
        have hA3 := hA.but hb3 (by simp)
        clear hpick hQ hA hb3 hcell
        go_wp2_with fail
        go_roundw
        case rel => exact ⟨i + 1, _, _, by omega, by go_num, hQ3, hA3, HF⟩
        case measure => simp [intOf]; omega
      · have hne := (pick_is HPM.out hm6 hs2m.out).2 h0
        have hb : pickB s xs = true := by rw [pickB_eq]; exact decide_eq_true hne
        have hpick := m_pick (x := k) (b := true) (z := (s : Int)) s wr hsl hQ rfl hk hb.symm
        have HPT := Lib.hid (pick_parts hne hk)
        have hkm : k ∈ xs := by
          obtain ⟨pre, post, h1, _⟩ := HPT.out
          rw [h1]; simp
        obtain ⟨k0, k1⟩ := (HPM.out.mem k).1 hkm
        obtain ⟨kn, rfl⟩ : ∃ kn : Nat, k = (kn : Int) := ⟨k.toNat, by omega⟩
        have hknm : kn < m := by omega
        have hhk : has s (kn : Int) = true := by obtain ⟨_, _, _, _, h1⟩ := HPT.out; exact h1
        have hsr := shr_one hhk
        have htk : tookE xs (kn : Int) = 0 := by rw [tookE, if_pos hkm]
        have HTK := Lib.hid htk
        have hz1 : ((s : Int) != 0) = true := by simp; omega
        have hwk : IntKind.u64.wrap (kn : Int) = (kn : Int) := by rw [IntKind.wrap_u64]; omega
        have hk2 : ¬ (kn : Int) < 0 := by omega
        have hk3 : ¬ (m : Int) ≤ (kn : Int) := by omega
        have hk4 : min kn 64 = kn := by omega
        clear hb hk h0 hne hkm htk hhk
        go_wp2_with fail
        refine hpick.mono ?_
        rintro e w3 ⟨rfl, hQ3, hb3⟩
        have hA3 := hA.but hb3 (by simp)
        clear hpick hQ hA hb3 hcell
        go_wp2_with fail
        refine (m_took (e := 0) (ys := tookX xs (kn : Int)) (kn : Int) _ hQ3 HTK.out.symm rfl).mono ?_
        rintro e w4 ⟨rfl, hQ4, hb4⟩
        have hA4 := hA3.but hb4 (by simpa using HVB.out)
        rw [← bump_zero s (kn : Int) P] at hA4
        clear hQ3 hA3 hb4 HTK hsr hwk hk4
        go_wp2_with fail
        have HLP := Lib.hid HF.out.len
        go_loopw [13] (fun jv wx => ∃ j : Nat, j ≤ m ∧ jv = .int .i64 (j : Int) ∧ Mine w wx B m (tookX xs (kn : Int)) ∧ Arr wx V (bump s (kn : Int) P j)) (fun jv _ => m - (intOf jv).toNat)
        case atStart => exact ⟨0, Nat.zero_le _, rfl, hQ4, hA4⟩
        case round =>
          clear hQ4 hA4
          obtain ⟨j, hj, rfl, hQ, hA⟩ := hrel
          by_cases hjm : j < m
          · have hjI : (j : Int) < (m : Int) := by omega
            have j0 : (0 : Int) ≤ (j : Int) := by omega
            have hcell := hA.cell (k := j) (by rw [bump_len, HLP.out]; exact hjm)
            have hfr := hA.frozen j
            have HCK : Hid (0 ≤ nth (bump s (kn : Int) P (j + 1)) j ∧ nth (bump s (kn : Int) P (j + 1)) j ≤ (m : Int) - 1) := Lib.hid (by
              obtain ⟨pre, post, h1, h2, _⟩ := HPT.out
              exact HF.out.check HPM.out h1 h2 hjm)
            have hy0 := bump_at (s := s) (k := (kn : Int)) (P := P) (c := j) (by rw [HLP.out]; exact hjm)
            obtain ⟨y, hy⟩ : ∃ y, y = nth P j := ⟨_, rfl⟩
            rw [show (bump s (kn : Int) P j)[j]?.getD 0 = y from hy0.trans hy.symm] at hcell
            have hwj : IntKind.u64.wrap (j : Int) = (j : Int) := by rw [IntKind.wrap_u64]; omega
            have hj64 : min j 64 = j := by omega
            have HL := Lib.hid (HF.out.low j hjm)
            rw [← hy] at HL
            cases hh : hit s (kn : Int) j with
            | true =>
              have HB := bump_hit (P := P) (by rw [HLP.out]; exact hjm) hh
              have hA2 := hA.set j (y + 1)
              rw [hy, HB, ← hy] at hA2
              have hv : nth (bump s (kn : Int) P (j + 1)) j = y + 1 := by rw [nth_bump (by rw [HLP.out]; exact hjm), if_pos ⟨by omega, hh⟩, hy]
              obtain ⟨c0, c1⟩ := HCK.out
              rw [hv] at c0 c1
              rw [hit, Bool.and_eq_true, decide_eq_true_eq] at hh
              obtain ⟨hjk, hhj⟩ := hh
              have t1 : ((j : Int) != (kn : Int)) = true := by simpa using hjk
              have hsj := shr_one hhj
              have hwy : IntKind.i64.wrap (y + 1) = y + 1 := by rw [IntKind.wrap_i64]; omega
              have t2 : ¬ ((m : Int) - 1 < y + 1) := by omega
              have hQ2 : Mine w (wr.setCell ⟨V, j, none⟩ (.int .i64 (y + 1))) B m (tookX xs (kn : Int)) := hQ.beside (S := [V]) ((But.refl [V] wr).set (p := ⟨V, j, none⟩) (.inl (by simp)) _) (by simpa using HVB.out.symm) (by simpa using HV.out)
              have HA2 := Lib.hid hA2
              have HQ2 := Lib.hid hQ2
              clear hv hjk hhj HB hA2 hQ2 hQ hA hy hy0 HCK
              go_wp2_with fail
              go_roundw
              case rel => exact ⟨j + 1, by omega, by go_num, HQ2.out, HA2.out⟩
              case measure => simp [intOf]; omega
            | false =>
              have hB := bump_miss (P := P) hh
              rw [← hB] at hA
              have hv : nth (bump s (kn : Int) P (j + 1)) j = y := by rw [hB, hy0, hy]
              obtain ⟨c0, c1⟩ := HCK.out
              rw [hv] at c0 c1
              have t2 : ¬ ((m : Int) - 1 < y) := by omega
              have HH := Lib.hid hh
              clear hv hB hy hy0 HCK hh
              by_cases hjk : (j : Int) = (kn : Int)
              · have t1 : ((j : Int) != (kn : Int)) = false := by simpa using hjk
                clear hjk HH
                go_wp2_with fail
                go_roundw
                case rel => exact ⟨j + 1, by omega, by go_num, hQ, hA⟩
                case measure => simp [intOf]; omega
              · have t1 : ((j : Int) != (kn : Int)) = true := by simpa using hjk
                have hsj := shr_zero (s := s) (k := j) (by omega) (by have := HH.out; rwa [hit, decide_eq_true hjk, Bool.true_and] at this)
                clear hjk HH
                go_wp2_with fail
                go_roundw
                case rel => exact ⟨j + 1, by omega, by go_num, hQ, hA⟩
                case measure => simp [intOf]; omega
          · obtain rfl : j = m := by omega
            have hjI : ¬ ((j : Int) < (j : Int)) := by omega
            have HS2 : Hid (FairI j (tookX xs (kn : Int)) ((bump s (kn : Int) P j).set kn 0)) := Lib.hid (by
              obtain ⟨pre, post, h1, h2, _⟩ := HPT.out
              exact HF.out.step HPM.out h1 h2 kn rfl hknm)
            have hcell := hA.cell (k := kn) (by rw [bump_len, HLP.out]; exact hknm)
            have hfr := hA.frozen kn
            have HA2 := Lib.hid (hA.set kn 0)
            have HQ2 : Hid (Mine w (wr.setCell ⟨V, kn, none⟩ (.int .i64 0)) B j (tookX xs (kn : Int))) := Lib.hid (hQ.beside (S := [V]) ((But.refl [V] wr).set (p := ⟨V, kn, none⟩) (.inl (by simp)) _) (by simpa using HVB.out.symm) (by simpa using HV.out))
            clear hQ hA
            go_wp2_with fail
            go_roundw
            case rel => exact ⟨i + 1, _, _, by omega, by go_num, HQ2.out, HA2.out, HS2⟩
            case measure => simp [intOf]; omega
    · obtain rfl : i = ls.length := by omega
      have hltI : ¬ ((ls.length : Int) < (ls.length : Int)) := by omega
      clear hls hlt hi
      go_wp2_with fail
      refine (alive_any _).mono ?_
      rintro e w7 ⟨rfl, hb7⟩
      have hbe := (hQ.later hb7).below
      clear hQ hb7
      go_wp2_with fail
      go_ret
      exact ⟨rfl, hbe⟩

theorem fair_any (u : Value) (q : Int) (hq0 : 0 ≤ q) (hq1 : q < 256) (ls : List Nat) (w : World) (hls : RowS w u ls) :
    Calls Try.prog 3 #[.int .u8 q, u] w fun e w' => e = .returned (.bool true) ∧ Below w.heap.size w w' := by
  obtain ⟨a, c, rfl⟩ := hls.slice
  by_cases hn : 300 < ls.length
  · exact fair_big a _ c q w hn
  · exact fair_loop a c q hq0 hq1 ls w (by omega) hls
end Go.Proofs.Ytmfjklfjbcjeiaa
