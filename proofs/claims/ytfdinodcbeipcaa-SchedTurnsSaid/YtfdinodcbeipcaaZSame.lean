/-
  Rows of ints in memory; the walk of tollbarref01.SameInts.
-/
import Derived.Test.YtfdinodcbeipcaaFAt
namespace Go.Proofs.Ytfdinodcbeipcaa
open Go.RowKit

/-- The slice value v reads as the numbers xs. -/
def RowI (w : World) (v : Value) (xs : List Int) : Prop :=
  (xs = [] ∧ ∃ a cap, v = .slice a 0 cap) ∨
  (∃ b off cap, v = .slice (some ⟨b, off, none⟩) xs.length cap ∧ 0 < xs.length ∧ b < w.heap.size ∧ ∀ j, j < xs.length → w.cell? ⟨b, off + j, none⟩ = some (.int .i64 (xs[j]?.getD 0)))

theorem RowI.below {w w' : World} {v : Value} {xs : List Int} (h : RowI w v xs) (hb : Below w.heap.size w w') : RowI w' v xs := by
  rcases h with h | ⟨b, off, cap, h1, h0, h2, h3⟩
  · exact .inl h
  · exact .inr ⟨b, off, cap, h1, h0, Nat.lt_of_lt_of_le h2 hb.size, fun j hj => (hb.cell (p := ⟨b, off + j, none⟩) h2).trans (h3 j hj)⟩

theorem RowI.of_owns {w : World} {base : Nat} {v : Value} {xs : List Int} (h : w.ownsRow base 3 1 v xs.length (I64 xs)) : RowI w v xs := by
  rcases id h.2 with ⟨rfl, hz⟩ | ⟨g, cap, cur, rfl, _, hg, _⟩
  · exact .inl ⟨List.length_eq_zero_iff.mp hz, none, 0, rfl⟩
  · by_cases hz : xs = []
    · subst hz; exact .inl ⟨rfl, _, _, rfl⟩
    · refine .inr ⟨g, 0, cap, rfl, List.length_pos_iff.mpr hz, (Array.getElem?_eq_some_iff.mp hg).1, fun j hj => ?_⟩
      have := h.cellAt j (by omega)
      rw [Nat.zero_add, this, I64, List.getElem?_map, List.getElem?_eq_getElem hj]; rfl

theorem take_eq_stepI {xs ys : List Int} {k : Nat} (hx : k < xs.length) (hy : k < ys.length) (h : xs.take k = ys.take k) (he : xs[k]?.getD 0 = ys[k]?.getD 0) : xs.take (k + 1) = ys.take (k + 1) := by
  rw [take_snocI xs k hx, take_snocI ys k hy, h, he]

/-- Each one is an int. -/
def Ints (xs : List Int) : Prop := ∀ x ∈ xs, -9223372036854775808 ≤ x ∧ x ≤ 9223372036854775807


set_option maxRecDepth 100000 in
theorem same_any (a b : Value) (xs ys : List Int) (w : World) (ha : RowI w a xs) (hb : RowI w b ys) (hxl : xs.length ≤ 9223372036854775807) (hyl : ys.length ≤ 9223372036854775807) :
    Calls Try.prog 25 #[a, b] w fun e w' => e = .returned (.bool (decide (xs = ys))) ∧ Below w.heap.size w w' := by
  by_cases hl : xs.length = ys.length
  · rcases ha with ⟨rfl, a1, c1, rfl⟩ | ⟨b1, o1, c1, rfl, h0, hb1, hc1⟩
    · obtain rfl : ys = [] := List.length_eq_zero_iff.mp hl.symm
      rcases hb with ⟨_, a2, c2, rfl⟩ | ⟨b2, o2, c2, rfl, h0, _⟩
      · go_enter Try.func25, Try.ntmps25
        go_wp2_with fail
        refine wp_loop_rounds 1 ?_
        rw [rounds_succ]
        go_wp2_with fail
        go_ret
        exact ⟨rfl, Below.refl _ _⟩
      · simp at h0
    · rcases hb with ⟨rfl, a2, c2, rfl⟩ | ⟨b2, o2, c2, rfl, _, hb2, hc2⟩
      · simp at hl; subst hl; simp at h0
      · have hl1 : ((xs.length : Int) == (ys.length : Int)) = true := by simp; omega
        have hl2 : ((xs.length : Int) != (ys.length : Int)) = false := by simp; omega
        have HL := Lib.hid hl
        clear hl
        go_enter Try.func25, Try.ntmps25
        go_wp2_with fail
        go_loopw [5] (fun i wr => ∃ k : Nat, i = .int .i64 k ∧ k ≤ xs.length ∧ Hid (xs.take k = ys.take k) ∧ Below w.heap.size w wr) (fun i _ => xs.length - (intOf i).toNat)
        case atStart => exact ⟨0, rfl, Nat.zero_le _, Lib.hid (by simp), Below.refl _ _⟩
        case round =>
          obtain ⟨k, rfl, hk, HT, hbl⟩ := hrel
          by_cases hlt : k < xs.length
          · have hlt' : (k : Int) < (xs.length : Int) := by omega
            have hlt2 : (k : Int) < (ys.length : Int) := by have := HL.out; omega
            have q0 : (0 : Int) ≤ (k : Int) := by omega
            have hx : wr.cell? ⟨b1, o1 + k, none⟩ = some (.int .i64 (xs[k]?.getD 0)) := (hbl.cell (p := ⟨b1, o1 + k, none⟩) hb1).trans (hc1 k hlt)
            have hy : wr.cell? ⟨b2, o2 + k, none⟩ = some (.int .i64 (ys[k]?.getD 0)) := (hbl.cell (p := ⟨b2, o2 + k, none⟩) hb2).trans (hc2 k (by omega))
            obtain ⟨x, hxe⟩ : ∃ x, x = xs[k]?.getD 0 := ⟨_, rfl⟩
            obtain ⟨y, hye⟩ : ∃ y, y = ys[k]?.getD 0 := ⟨_, rfl⟩
            rw [← hxe] at hx
            rw [← hye] at hy
            have HX := Lib.hid hxe
            have HY := Lib.hid hye
            clear hxe hye hc1 hc2
            by_cases he : x = y
            · subst he
              have HT' := Lib.hid (take_eq_stepI hlt (by omega) HT.out (HX.out.symm.trans HY.out))
              go_wp2_with fail
              go_quiet (fail)
              go_wp2_with fail
              go_roundw
              case rel => exact ⟨k + 1, by go_num, by omega, HT', below_drewN hbl _⟩
              case measure => simp [intOf]; omega
            · have e1 : (x == y) = false := by simp; omega
              have e2 : (x != y) = true := by simp; omega
              have HD : Hid (decide (xs = ys) = false) := Lib.hid (by simp; rintro rfl; exact he (HX.out.trans HY.out.symm))
              clear he
              go_wp2_with fail
              go_quiet (fail)
              go_wp2_with fail
              go_ret
              exact ⟨ret_b HD.out.symm, below_drewN hbl _⟩
          · have hlt' : ¬ (k : Int) < (xs.length : Int) := by omega
            have HD : Hid (decide (xs = ys) = true) := Lib.hid (by
              have h1 := HT.out
              rw [List.take_of_length_le (by omega), List.take_of_length_le (by have := HL.out; omega)] at h1
              simp [h1])
            clear hc1 hc2
            go_wp2_with fail
            go_ret
            exact ⟨ret_b HD.out.symm, hbl⟩
  · have hne : ((xs.length : Int) == (ys.length : Int)) = false := by simp; omega
    have hne2 : ((xs.length : Int) != (ys.length : Int)) = true := by simp; omega
    have HD : Hid (decide (xs = ys) = false) := Lib.hid (by simp; rintro rfl; exact hl rfl)
    have ea : ∃ p c, a = .slice p xs.length c := by
      rcases ha with ⟨rfl, a1, c1, rfl⟩ | ⟨b1, o1, c1, rfl, _⟩
      · exact ⟨_, _, rfl⟩
      · exact ⟨_, _, rfl⟩
    have eb : ∃ p c, b = .slice p ys.length c := by
      rcases hb with ⟨rfl, a1, c1, rfl⟩ | ⟨b1, o1, c1, rfl, _⟩
      · exact ⟨_, _, rfl⟩
      · exact ⟨_, _, rfl⟩
    clear hl
    obtain ⟨p1, c1, rfl⟩ := ea
    obtain ⟨p2, c2, rfl⟩ := eb
    clear ha hb
    go_enter Try.func25, Try.ntmps25
    go_wp2_with fail
    go_ret
    exact ⟨ret_b HD.out.symm, Below.refl _ _⟩
end Go.Proofs.Ytfdinodcbeipcaa
