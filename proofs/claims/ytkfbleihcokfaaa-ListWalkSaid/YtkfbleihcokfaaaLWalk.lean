/-
  The walk of the law ListWalk.
-/
import Derived.Deep.CutRange
import Derived.Deep.Light
import Derived.Test.YtkfbleihcokfaaaLSteps
namespace Go.Proofs.Ytkfbleihcokfaaa
open Go.RowKit

set_option maxRecDepth 100000 in
set_option maxHeartbeats 400000 in
theorem walk_big (a : Option Addr) (n cap : Nat) (w : World) (hn : 200 < n) :
    Calls Try.prog 5 #[.slice a n cap] w fun e w' => e = .returned (.bool true) ∧ Below w.heap.size w w' := by
  have hl2 : (200 : Int) < (n : Int) := by omega
  go_enter Try.func5, Try.ntmps5
  go_wp2_with fail
  refine (alive_any _).mono ?_
  rintro e w1 ⟨rfl, hb⟩
  go_wp2_with fail
  go_ret
  exact ⟨rfl, hb⟩

set_option maxRecDepth 100000 in
set_option maxHeartbeats 3200000 in
theorem walk_loop (a : Option Addr) (cap : Nat) (ss : List (Int × Int)) (w : World) (hl : ss.length ≤ 200) (hs : Steps w (.slice a ss.length cap) ss) :
    Calls Try.prog 5 #[.slice a ss.length cap] w fun e w' => e = .returned (.bool true) ∧ Below w.heap.size w w' := by
  have hl2 : ¬ (200 : Int) < (ss.length : Int) := by omega
  go_enter Try.func5, Try.ntmps5
  go_wp2_with fail
  refine (m_new _ (But.refl [] w)).mono ?_
  rintro e w2 ⟨B, M, rfl, hQ, -, -, -⟩
  go_wp2_with fail
  go_loopw [4] (fun iv wr => ∃ (k : Nat) (xs : List Int), k ≤ ss.length ∧ iv = .int .i64 (k : Int) ∧ Mine w wr B M xs) (fun iv _ => ss.length - (intOf iv).toNat)
  case atStart => exact ⟨0, [], Nat.zero_le _, rfl, hQ⟩
  case round =>
    clear hQ
    obtain ⟨k, xs, hk, rfl, hQ⟩ := hrel
    by_cases hlt : k < ss.length
    · have hlt' : (k : Int) < (ss.length : Int) := by omega
      obtain ⟨b, off, d, v, rfl, hb, hd, hv, hdb, hvb⟩ := hs.at hQ.below hlt
      have k0 : (0 : Int) ≤ (k : Int) := by omega
      by_cases e0 : d = 0
      · subst e0
        go_wp2_with fail
        refine (m_put v _ hQ rfl rfl).mono ?_
        rintro e w3 ⟨rfl, hQ3, -⟩
        clear hQ hd hv
        go_wp2_with fail
        go_roundw
        case rel => exact ⟨k + 1, _, by omega, by go_num, hQ3⟩
        case measure => simp [intOf]; omega
      · have e0' : (d == 0) = false := by simpa using e0
        by_cases e1 : d = 1
        · subst e1
          go_wp2_with fail
          refine (m_pop _ hQ rfl rfl rfl).mono ?_
          rintro e w3 ⟨rfl, hQ3, -⟩
          clear hQ hd hv
          go_wp2_with fail
          go_roundw
          case rel => exact ⟨k + 1, _, by omega, by go_num, hQ3⟩
          case measure => simp [intOf]; omega
        · have e1' : (d == 1) = false := by simpa using e1
          by_cases e2 : d = 2
          · subst e2
            go_wp2_with fail
            refine (m_drop v hvb _ hQ rfl rfl).mono ?_
            rintro e w3 ⟨rfl, hQ3, -⟩
            clear hQ hd hv
            go_wp2_with fail
            go_roundw
            case rel => exact ⟨k + 1, _, by omega, by go_num, hQ3⟩
            case measure => simp [intOf]; omega
          · have e2' : (d == 2) = false := by simpa using e2
            go_wp2_with fail
            go_roundw
            case rel => exact ⟨k + 1, _, by omega, by go_num, hQ⟩
            case measure => simp [intOf]; omega
    · obtain rfl : k = ss.length := by omega
      have hlt' : ¬ ((ss.length : Int) < (ss.length : Int)) := by omega
      clear hs hl hl2 hk
      go_wp2_with fail
      refine (all_any _ hQ.que).mono ?_
      rintro e w4 ⟨v, rfl, hown, hb4⟩
      have hQ4 := hQ.later hb4
      have hrow := RowI.of_owns hown
      obtain ⟨p, c, rfl⟩ := hrow.slice
      have HL := Lib.hid hQ.que.le
      have HN := Lib.hid hQ.que.nd
      have HR := Lib.hid hQ.que.rng
      clear hQ hown hb4
      go_wp2_with fail
      have hf := front_any _ hQ4.que
      have e0 : (xs[0]?).isSome = decide (0 < xs.length) := by cases xs <;> simp
      rw [e0] at hf
      refine hf.mono ?_
      clear hf e0
      rintro e w5 ⟨rfl, rfl⟩
      go_wp2_with fail
      go_loopw [6, 7, 8] (fun kv bv iv wr => ∃ j : Nat, j ≤ xs.length ∧ kv = .int .i64 ((xs[j]?).getD 0) ∧ bv = .bool (decide (j < xs.length)) ∧ iv = .int .i64 (j : Int) ∧ Mine w wr B M xs ∧ RowI wr (.slice p xs.length c) xs) (fun _ _ iv _ => xs.length - (intOf iv).toNat)
      case atStart => exact ⟨0, Nat.zero_le _, rfl, rfl, rfl, hQ4, hrow⟩
      case round =>
        clear hQ4 hrow
        obtain ⟨j, hj, rfl, rfl, rfl, hQ, hrow⟩ := hrel
        have hxl := HL.out
        by_cases hlt : j < xs.length
        · have hlt' : (j : Int) < (xs.length : Int) := by omega
          have hd : decide (j < xs.length) = true := by simpa using hlt
          obtain ⟨b, off, rfl, hb, hcell⟩ := hrow.at hlt
          obtain ⟨x, hx⟩ : ∃ x, xs[j]? = some x := ⟨_, List.getElem?_eq_getElem hlt⟩
          have hxr := HR.out x (List.mem_of_getElem? hx)
          have hxb : I64b x := by unfold I64b; omega
          have hmem := List.mem_of_getElem? hx
          have hhas := has_any x hxb _ hQ.que
          simp only [hmem, decide_true] at hhas
          have HNx := Lib.hid (nextE_get HN.out hx)
          rw [hx] at hcell ⊢
          simp only [Option.getD_some] at hcell ⊢
          have j0 : (0 : Int) ≤ (j : Int) := by omega
          have hxx : (x != x) = false := by simp
          clear hx hxr hmem
          go_wp2_with fail
          refine hhas.mono ?_
          rintro e w6 ⟨rfl, hb6⟩
          have hQ6 := hQ.fresh hb6
          have hrow6 := hrow.below (hb6.below (Nat.le_refl _) (by simp))
          have hnext := next_any x hxb _ hQ6.que
          rw [HNx.out] at hnext
          have e1 : (xs[j + 1]?).isSome = decide (j + 1 < xs.length) := by
            by_cases h : j + 1 < xs.length
            · rw [List.getElem?_eq_getElem h]; simp [h]
            · rw [List.getElem?_eq_none (by omega)]; simp [h]
          rw [e1] at hnext
          clear hQ hrow hhas hb6 hcell hxb e1
          generalize hx1 : (xs[j + 1]?).getD 0 = x1 at hnext
          generalize hb1 : decide (j + 1 < xs.length) = b1 at hnext
          have HX := Lib.hid hx1
          have HB := Lib.hid hb1
          clear hx1 hb1
          go_wp2_with fail
          refine hnext.mono ?_
          rintro e w7 ⟨rfl, hb7⟩
          have hQ7 := hQ6.fresh hb7
          have hrow7 := hrow6.below (hb7.below (Nat.le_refl _) (by simp))
          clear hQ6 hrow6 hb7 hnext
          go_wp2_with fail
          go_roundw
          case rel => exact ⟨j + 1, by omega, by rw [HX.out], by rw [HB.out], by go_num, hQ7, hrow7⟩
          case measure => simp [intOf]; omega
        · obtain rfl : j = xs.length := by omega
          have hlt' : ¬ ((xs.length : Int) < (xs.length : Int)) := by omega
          have hd : decide (xs.length < xs.length) = false := by simp
          have e0 : (xs[xs.length]?).getD 0 = 0 := by simp
          rw [hd, e0]
          have hlen := len_any _ hQ.que
          have hll : ((xs.length : Int) == (xs.length : Int)) = true := by simp
          clear hrow
          go_wp2_with fail
          refine hlen.mono ?_
          rintro e w6 ⟨rfl, rfl⟩
          go_wp2_with fail
          refine (alive_any _).mono ?_
          rintro e w7 ⟨rfl, hb7⟩
          have hbe := (hQ.later hb7).below
          clear hQ hb7 hlen
          go_wp2_with fail
          go_ret
          exact ⟨rfl, hbe⟩

theorem walk_any (v : Value) (ss : List (Int × Int)) (w : World) (hs : Steps w v ss) :
    Calls Try.prog 5 #[v] w fun e w' => e = .returned (.bool true) ∧ Below w.heap.size w w' := by
  obtain ⟨a, c, rfl⟩ := hs.slice
  by_cases hn : 200 < ss.length
  · exact walk_big a _ c w hn
  · exact walk_loop a c ss w (by omega) hs
end Go.Proofs.Ytkfbleihcokfaaa
