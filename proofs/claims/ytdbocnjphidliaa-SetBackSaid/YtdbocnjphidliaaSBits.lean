/-
  The walks of set.bit, Has, With, Less and of tollbarref02's weight, Has, With, Less.
-/
import Derived.Test.YtdbocnjphidliaaRows
import Derived.Test.YtdbocnjphidliaaSMath
import Derived.WalkKit
import Derived.WalkLawsBesides
import Derived.WalkSpells
import Derived.Outline
import Derived.Lib.Hide
namespace Go.Proofs.Ytdbocnjphidliaa
open Go.RowKit SetM

theorem ret_u64 {x y : Int} {w : World} (h : Hid (x = y)) : Ending.returned (.int .u64 x) = .returned (.int .u64 y) ∧ w = w := ⟨by rw [h.out], rfl⟩
theorem ret_bool {x y : Bool} {w : World} (h : Hid (x = y)) : Ending.returned (.bool x) = .returned (.bool y) ∧ w = w := ⟨by rw [h.out], rfl⟩

theorem bit_any (k : Int) (h1 : -9223372036854775808 ≤ k) (h2 : k ≤ 9223372036854775807) (w : World) :
    Calls Try.prog 22 #[.int .i64 k] w fun e w' => e = .returned (.int .u64 (bitOf k : Nat)) ∧ w' = w := by
  go_enter Try.func22, Try.ntmps22
  by_cases hneg : k < 0
  · go_wp2_with fail
    go_ret
    rw [bitOf_out (by omega)]
    exact ⟨rfl, rfl⟩
  · have HE := Lib.hid (shl_bit (k := k) (by omega))
    go_wp2_with fail
    go_ret
    exact ret_u64 HE

theorem has_any (s : Nat) (k : Int) (hs : s < 18446744073709551616) (h1 : -9223372036854775808 ≤ k) (h2 : k ≤ 9223372036854775807) (w : World) :
    Calls Try.prog 8 #[.int .u64 s, .int .i64 k] w fun e w' => e = .returned (.bool (has s k)) ∧ w' = w := by
  have HE := Lib.hid (and_has hs k)
  go_enter Try.func8, Try.ntmps8
  go_wp2_with fail
  refine (bit_any k h1 h2 _).mono ?_
  rintro e w1 ⟨rfl, rfl⟩
  go_wp2_with fail
  go_ret
  exact ret_bool HE

theorem with_any (s : Nat) (k : Int) (hs : s < 18446744073709551616) (h1 : -9223372036854775808 ≤ k) (h2 : k ≤ 9223372036854775807) (w : World) :
    Calls Try.prog 10 #[.int .u64 s, .int .i64 k] w fun e w' => e = .returned (.int .u64 (withN s k : Nat)) ∧ w' = w := by
  have HE := Lib.hid (or_with hs k)
  go_enter Try.func10, Try.ntmps10
  go_wp2_with fail
  refine (bit_any k h1 h2 _).mono ?_
  rintro e w1 ⟨rfl, rfl⟩
  go_wp2_with fail
  go_ret
  exact ret_u64 HE

theorem less_any (s : Nat) (k : Int) (hs : s < 18446744073709551616) (h1 : -9223372036854775808 ≤ k) (h2 : k ≤ 9223372036854775807) (w : World) :
    Calls Try.prog 12 #[.int .u64 s, .int .i64 k] w fun e w' => e = .returned (.int .u64 (lessN s k : Nat)) ∧ w' = w := by
  have HE := Lib.hid (andNot_less hs k)
  go_enter Try.func12, Try.ntmps12
  go_wp2_with fail
  refine (bit_any k h1 h2 _).mono ?_
  rintro e w1 ⟨rfl, rfl⟩
  go_wp2_with fail
  go_ret
  exact ret_u64 HE

/-! ### The document's answer -/

theorem two_pow_le (i : Nat) (h : i ≤ 63) : 2 ^ i ≤ 9223372036854775808 := by
  rw [show (9223372036854775808 : Nat) = 2 ^ 63 from rfl]; exact Nat.pow_le_pow_right (by decide) h

theorem weight_any (k : Int) (h1 : 0 ≤ k) (h2 : k < 64) (w : World) :
    Calls Try.prog 23 #[.int .i64 k] w fun e w' => e = .returned (.int .u64 ((2 ^ k.toNat : Nat) : Int)) ∧ w' = w := by
  go_enter Try.func23, Try.ntmps23
  go_wp2_with fail
  go_loop [3, 4] (fun v i => ∃ n u : Nat, (n : Int) ≤ k ∧ i = .int .i64 n ∧ v = .int .u64 (u : Int) ∧ Hid (u = 2 ^ n)) (fun _ i => k.toNat - (intOf i).toNat)
  case atStart => exact ⟨0, 1, by omega, rfl, rfl, Lib.hid rfl⟩
  case round =>
    obtain ⟨n, u, hn, rfl, rfl, HU⟩ := hrel
    by_cases hlt : (n : Int) < k
    · have hu : u ≤ 4611686018427387904 := by
        have := HU.out
        rw [this, show (4611686018427387904 : Nat) = 2 ^ 62 from rfl]; exact Nat.pow_le_pow_right (by decide) (by omega)
      go_wp2_with fail
      go_round
      case rel => exact ⟨n + 1, 2 * u, by omega, by go_num, by go_num, Lib.hid (by rw [HU.out, Nat.pow_succ]; omega)⟩
      case measure => simp [intOf]; omega
    · obtain rfl : k = (n : Int) := by omega
      go_wp2_with fail
      go_ret
      exact ret_u64 (Lib.hid (by rw [HU.out]; rfl))
theorem rHas_any (s : Nat) (k : Int) (hs : s < 18446744073709551616) (h1 : -9223372036854775808 ≤ k) (h2 : k ≤ 9223372036854775807) (w : World) :
    Calls Try.prog 9 #[.int .u64 s, .int .i64 k] w fun e w' => e = .returned (.bool (has s k)) ∧ w' = w := by
  by_cases h0 : 0 ≤ k
  · by_cases h64 : k < 64
    · obtain ⟨p, hp⟩ : ∃ p : Nat, p = 2 ^ k.toNat := ⟨_, rfl⟩
      have hp0 : 0 < p := by rw [hp]; exact Nat.two_pow_pos _
      have hw := weight_any k h0 h64
      rw [← hp] at hw
      have HE : Hid (((IntKind.u64.wrap ((s : Int) / (p : Int))).tmod 2 == 1) = has s k) := Lib.hid (by
        rw [has_div h0 h64, ← hp, IntKind.wrap_u64]
        have hq : s / p ≤ s := Nat.div_le_self _ _
        have e0 : (s : Int) / (p : Int) % 18446744073709551616 = ((s / p : Nat) : Int) := by
          have : (s : Int) / (p : Int) = ((s / p : Nat) : Int) := by simp
          rw [this]; clear this; generalize s / p = q at hq ⊢; omega
        have e1 : ((s / p : Nat) : Int).tmod 2 = ((s / p % 2 : Nat) : Int) := by clear e0; generalize s / p = q at hq ⊢; rw [Int.tmod_eq_emod_of_nonneg (by omega)]; omega
        rw [e0, e1]
        by_cases hc : s / p % 2 = 1
        · rw [hc]; rfl
        · rw [decide_eq_false hc]; simp; omega)
      have hpz : (p : Int) ≠ 0 := by omega
      have hpp : (0 : Int) < (p : Int) := by omega
      clear hp
      go_enter Try.func9, Try.ntmps9
      go_wp2_with fail
      refine (hw _).mono ?_
      rintro e w1 ⟨rfl, rfl⟩
      go_wp2_with fail
      go_ret
      exact ret_bool HE
    · have HE : Hid (false = has s k) := Lib.hid (by rw [has_out (by omega)])
      go_enter Try.func9, Try.ntmps9
      go_wp2_with fail
      go_ret
      exact ret_bool HE
  · have HE : Hid (false = has s k) := Lib.hid (by rw [has_out (by omega)])
    go_enter Try.func9, Try.ntmps9
    go_wp2_with fail
    go_ret
    exact ret_bool HE

theorem rHas_at {s : Nat} {k : Int} {b : Bool} (hs : s < 18446744073709551616) (h1 : -9223372036854775808 ≤ k) (h2 : k ≤ 9223372036854775807) (hb : has s k = b) (w : World) :
    Calls Try.prog 9 #[.int .u64 s, .int .i64 k] w fun e w' => e = .returned (.bool b) ∧ w' = w := by
  have := rHas_any s k hs h1 h2 w; rwa [hb] at this

theorem rWith_any (s : Nat) (k : Int) (hs : s < 18446744073709551616) (h1 : -9223372036854775808 ≤ k) (h2 : k ≤ 9223372036854775807) (w : World) :
    Calls Try.prog 11 #[.int .u64 s, .int .i64 k] w fun e w' => e = .returned (.int .u64 (withN s k : Nat)) ∧ w' = w := by
  by_cases h0 : 0 ≤ k
  · by_cases h64 : k < 64
    · cases hh : has s k with
      | true =>
        have HE : Hid ((s : Int) = (withN s k : Nat)) := Lib.hid (by rw [withN_there hs hh])
        go_enter Try.func11, Try.ntmps11
        go_wp2_with fail
        refine (rHas_at hs h1 h2 hh _).mono ?_
        rintro e w1 ⟨rfl, rfl⟩
        go_wp2_with fail
        go_ret
        exact ret_u64 HE
      | false =>
        have ha := add_bit hs h0 h64 hh
        have hl := withN_lt hs k
        obtain ⟨p, hp⟩ : ∃ p : Nat, p = 2 ^ k.toNat := ⟨_, rfl⟩
        have hw := weight_any k h0 h64
        rw [← hp] at hw ha
        have hsum : (s : Int) + (p : Int) ≤ 18446744073709551615 := by omega
        have HE : Hid ((s : Int) + (p : Int) = (withN s k : Nat)) := Lib.hid (by omega)
        clear hp ha hl
        go_enter Try.func11, Try.ntmps11
        go_wp2_with fail
        refine (rHas_at hs h1 h2 hh _).mono ?_
        rintro e w1 ⟨rfl, rfl⟩
        go_wp2_with fail
        refine (hw _).mono ?_
        rintro e w1 ⟨rfl, rfl⟩
        go_wp2_with fail
        go_ret
        exact ret_u64 HE
    · have HE : Hid ((s : Int) = (withN s k : Nat)) := Lib.hid (by rw [withN_out (by omega)])
      go_enter Try.func11, Try.ntmps11
      go_wp2_with fail
      go_ret
      exact ret_u64 HE
  · have HE : Hid ((s : Int) = (withN s k : Nat)) := Lib.hid (by rw [withN_out (by omega)])
    go_enter Try.func11, Try.ntmps11
    go_wp2_with fail
    go_ret
    exact ret_u64 HE

theorem rLess_any (s : Nat) (k : Int) (hs : s < 18446744073709551616) (h1 : -9223372036854775808 ≤ k) (h2 : k ≤ 9223372036854775807) (w : World) :
    Calls Try.prog 13 #[.int .u64 s, .int .i64 k] w fun e w' => e = .returned (.int .u64 (lessN s k : Nat)) ∧ w' = w := by
  cases hh : has s k with
  | true =>
    have h0 : 0 ≤ k ∧ k < 64 := by
      apply Classical.byContradiction; intro h; rw [has_out h] at hh; cases hh
    have ha := sub_bit hs h0.1 h0.2 hh
    obtain ⟨p, hp⟩ : ∃ p : Nat, p = 2 ^ k.toNat := ⟨_, rfl⟩
    have hw := weight_any k h0.1 h0.2
    rw [← hp] at hw ha
    have hsub : 0 ≤ (s : Int) - (p : Int) := by omega
    have HE : Hid ((s : Int) - (p : Int) = (lessN s k : Nat)) := Lib.hid (by omega)
    clear hp ha
    go_enter Try.func13, Try.ntmps13
    go_wp2_with fail
    refine (rHas_at hs h1 h2 hh _).mono ?_
    rintro e w1 ⟨rfl, rfl⟩
    go_wp2_with fail
    refine (hw _).mono ?_
    rintro e w1 ⟨rfl, rfl⟩
    go_wp2_with fail
    go_ret
    exact ret_u64 HE
  | false =>
    have HE : Hid ((s : Int) = (lessN s k : Nat)) := Lib.hid (by rw [lessN_not hs hh])
    go_enter Try.func13, Try.ntmps13
    go_wp2_with fail
    refine (rHas_at hs h1 h2 hh _).mono ?_
    rintro e w1 ⟨rfl, rfl⟩
    go_wp2_with fail
    go_ret
    exact ret_u64 HE

/-! ### In, number by number -/

def inTo (n a b : Nat) : Bool := (numsTo n a).all fun k => b.testBit k.val
theorem inTo_succ (n a b : Nat) (hn : n < 64) : inTo (n + 1) a b = (inTo n a b && !(has a (n : Int) && !has b (n : Int))) := by
  have e : ∀ s : Nat, has s (n : Int) = s.testBit n := fun s => by
    rw [has, decide_eq_true ⟨by omega, by omega⟩, Bool.true_and, Int.toNat_natCast]
  rw [e, e, inTo]
  cases h : a.testBit n with
  | true => rw [numsTo_hit h, List.all_append, inTo]; simp [Nat.mod_eq_of_lt hn]
  | false => rw [numsTo_miss h, inTo]; simp
theorem inTo_false {n a b : Nat} (hn : n ≤ 64) (h : inTo n a b = false) : inS a b = false := by
  have : ∀ m, n + m ≤ 64 → inTo (n + m) a b = false := by
    intro m
    induction m with
    | zero => intro _; exact h
    | succ m ih => intro hm; rw [← Nat.add_assoc, inTo_succ _ _ _ (by omega), ih (by omega)]; rfl
  have := this (64 - n) (by omega)
  rwa [show n + (64 - n) = 64 by omega] at this

theorem rIn_any (a b : Nat) (ha : a < 18446744073709551616) (hb : b < 18446744073709551616) (w : World) :
    Calls Try.prog 18 #[.int .u64 a, .int .u64 b] w fun e w' => e = .returned (.bool (inS a b)) ∧ w' = w := by
  go_enter Try.func18, Try.ntmps18
  go_wp2_with fail
  go_loop [5] (fun i => ∃ n : Nat, n ≤ 64 ∧ i = .int .i64 n ∧ Hid (inTo n a b = true)) (fun i => 64 - (intOf i).toNat)
  case atStart => exact ⟨0, by omega, rfl, Lib.hid rfl⟩
  case round =>
    obtain ⟨n, hn, rfl, HT⟩ := hrel
    by_cases hlt : (n : Int) < 64
    · have HS := Lib.hid (inTo_succ n a b (by omega))
      cases h1 : has a (n : Int) with
      | true =>
        cases h2 : has b (n : Int) with
        | true =>
          have HN : Hid (inTo (n + 1) a b = true) := Lib.hid (by rw [HS.out, HT.out, h1, h2]; rfl)
          go_wp2_with fail
          refine (rHas_at ha (by omega) (by omega) h1 _).mono ?_
          rintro e w1 ⟨rfl, rfl⟩
          go_wp2_with fail
          refine (rHas_at hb (by omega) (by omega) h2 _).mono ?_
          rintro e w1 ⟨rfl, rfl⟩
          go_wp2_with fail
          go_round
          case rel => exact ⟨n + 1, by omega, by go_num, HN⟩
          case measure => simp [intOf]; omega
        | false =>
          have HN : Hid (false = inS a b) := Lib.hid (by
            rw [inTo_false (n := n + 1) (by omega)]; rw [HS.out, HT.out, h1, h2]; rfl)
          go_wp2_with fail
          refine (rHas_at ha (by omega) (by omega) h1 _).mono ?_
          rintro e w1 ⟨rfl, rfl⟩
          go_wp2_with fail
          refine (rHas_at hb (by omega) (by omega) h2 _).mono ?_
          rintro e w1 ⟨rfl, rfl⟩
          go_wp2_with fail
          go_ret
          exact ret_bool HN
      | false =>
        have HN : Hid (inTo (n + 1) a b = true) := Lib.hid (by rw [HS.out, HT.out, h1]; rfl)
        go_wp2_with fail
        refine (rHas_at ha (by omega) (by omega) h1 _).mono ?_
        rintro e w1 ⟨rfl, rfl⟩
        go_wp2_with fail
        go_round
        case rel => exact ⟨n + 1, by omega, by go_num, HN⟩
        case measure => simp [intOf]; omega
    · obtain rfl : n = 64 := by omega
      have HN : Hid (true = inS a b) := Lib.hid HT.out.symm
      go_wp2_with fail
      go_ret
      exact ret_bool HN
end Go.Proofs.Ytdbocnjphidliaa
