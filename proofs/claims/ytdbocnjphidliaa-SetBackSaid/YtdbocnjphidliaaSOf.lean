/-
  The walks of set.Of, tollbarref02.Of and tollbarref01.SameInts.
-/
import Derived.BigQuiet
import Derived.Test.YtdbocnjphidliaaSList
namespace Go.Proofs.Ytdbocnjphidliaa
open Go.RowKit SetM

theorem take_snocI (xs : List Int) (k : Nat) (hk : k < xs.length) : xs.take (k + 1) = xs.take k ++ [xs[k]?.getD 0] := by
  rw [List.take_add_one, List.getElem?_eq_getElem hk]; rfl
theorem mem_of_getDI {xs : List Int} {k : Nat} (h : k < xs.length) : xs[k]?.getD 0 ∈ xs := by rw [List.getElem?_eq_getElem h]; simp
theorem take_eq_stepI {xs ys : List Int} {k : Nat} (hx : k < xs.length) (hy : k < ys.length) (h : xs.take k = ys.take k) (he : xs[k]?.getD 0 = ys[k]?.getD 0) : xs.take (k + 1) = ys.take (k + 1) := by
  rw [take_snocI xs k hx, take_snocI ys k hy, h, he]

/-- Each one is an int. -/
def Ints (xs : List Int) : Prop := ∀ x ∈ xs, -9223372036854775808 ≤ x ∧ x ≤ 9223372036854775807

theorem of_any (v : Value) (xs : List Int) (w : World) (hr : RowI w v xs) (hx : Ints xs) (hlen : xs.length ≤ 1000) :
    Calls Try.prog 19 #[v] w fun e w' => e = .returned (.int .u64 (ofL xs : Nat)) ∧ w' = w := by
  rcases hr with ⟨rfl, a, cap, rfl⟩ | ⟨b, off, cap, rfl, h0, hb, hc⟩
  · go_enter Try.func19, Try.ntmps19
    go_wp2_with fail
    refine wp_loop_rounds 1 ?_
    rw [rounds_succ]
    go_wp2_with fail
    go_ret
    exact ⟨rfl, rfl⟩
  · go_enter Try.func19, Try.ntmps19
    go_wp2_with fail
    go_loop [2, 7] (fun sv i => ∃ k s : Nat, k ≤ xs.length ∧ i = .int .i64 k ∧ sv = .int .u64 s ∧ s < 18446744073709551616 ∧ Hid (s = ofL (xs.take k))) (fun _ i => xs.length - (intOf i).toNat)
    case atStart => exact ⟨0, 0, Nat.zero_le _, rfl, rfl, by omega, Lib.hid rfl⟩
    case round =>
      obtain ⟨k, s, hk, rfl, rfl, hs, HS⟩ := hrel
      by_cases hlt : k < xs.length
      · have hlt' : (k : Int) < (xs.length : Int) := by omega
        have hcell : w.cell? ⟨b, off + k, none⟩ = some (.int .i64 (xs[k]?.getD 0)) := hc k hlt
        have hxk := hx _ (mem_of_getDI hlt)
        have HT := Lib.hid (take_snocI xs k hlt)
        obtain ⟨x, hxe⟩ : ∃ x, x = xs[k]?.getD 0 := ⟨_, rfl⟩
        rw [← hxe] at hcell hxk HT
        clear hxe hc
        have HO : Hid (withN s x = ofL (xs.take (k + 1))) := Lib.hid (by rw [HT.out, ofL_snoc, HS.out])
        have hor := or_with hs x
        have hwl := withN_lt hs x
        go_wp2_with fail
        refine (bit_any x hxk.1 hxk.2 _).mono ?_
        rintro e w1 ⟨rfl, rfl⟩
        go_wp2_with fail
        go_round
        case rel => exact ⟨k + 1, withN s x, by omega, by go_num, rfl, hwl, HO⟩
        case measure => simp [intOf]; omega
      · have hlt' : ¬ (k : Int) < (xs.length : Int) := by omega
        obtain rfl : k = xs.length := by omega
        have HF : Hid ((s : Int) = (ofL xs : Nat)) := Lib.hid (by have := HS.out; rw [List.take_length] at this; rw [this])
        clear hc hx hlt
        go_wp2_with fail
        go_ret
        exact ret_u64 HF

theorem rOf_any (v : Value) (xs : List Int) (w : World) (hr : RowI w v xs) (hx : Ints xs) (hlen : xs.length ≤ 1000) :
    Calls Try.prog 20 #[v] w fun e w' => e = .returned (.int .u64 (ofL xs : Nat)) ∧ w' = w := by
  rcases hr with ⟨rfl, a, cap, rfl⟩ | ⟨b, off, cap, rfl, h0, hb, hc⟩
  · go_enter Try.func20, Try.ntmps20
    go_wp2_with fail
    refine wp_loop_rounds 1 ?_
    rw [rounds_succ]
    go_wp2_with fail
    go_ret
    exact ⟨rfl, rfl⟩
  · go_enter Try.func20, Try.ntmps20
    go_wp2_with fail
    go_loop [3, 4] (fun sv i => ∃ k s : Nat, k ≤ xs.length ∧ i = .int .i64 k ∧ sv = .int .u64 s ∧ s < 18446744073709551616 ∧ Hid (s = ofL (xs.take k))) (fun _ i => xs.length - (intOf i).toNat)
    case atStart => exact ⟨0, 0, Nat.zero_le _, rfl, rfl, by omega, Lib.hid rfl⟩
    case round =>
      obtain ⟨k, s, hk, rfl, rfl, hs, HS⟩ := hrel
      by_cases hlt : k < xs.length
      · have hlt' : (k : Int) < (xs.length : Int) := by omega
        have hcell : w.cell? ⟨b, off + k, none⟩ = some (.int .i64 (xs[k]?.getD 0)) := hc k hlt
        have hxk := hx _ (mem_of_getDI hlt)
        have HT := Lib.hid (take_snocI xs k hlt)
        obtain ⟨x, hxe⟩ : ∃ x, x = xs[k]?.getD 0 := ⟨_, rfl⟩
        rw [← hxe] at hcell hxk HT
        clear hxe hc
        have HO : Hid (withN s x = ofL (xs.take (k + 1))) := Lib.hid (by rw [HT.out, ofL_snoc, HS.out])
        have hwl := withN_lt hs x
        go_wp2_with fail
        refine (rWith_any s x hs hxk.1 hxk.2 _).mono ?_
        rintro e w1 ⟨rfl, rfl⟩
        go_wp2_with fail
        go_round
        case rel => exact ⟨k + 1, withN s x, by omega, by go_num, rfl, hwl, HO⟩
        case measure => simp [intOf]; omega
      · have hlt' : ¬ (k : Int) < (xs.length : Int) := by omega
        obtain rfl : k = xs.length := by omega
        have HF : Hid ((s : Int) = (ofL xs : Nat)) := Lib.hid (by have := HS.out; rw [List.take_length] at this; rw [this])
        clear hc hx hlt
        go_wp2_with fail
        go_ret
        exact ret_u64 HF

theorem ret_b {x y : Bool} (h : x = y) : Ending.returned (.bool x) = .returned (.bool y) := by rw [h]

set_option maxRecDepth 100000 in
theorem same_any (a b : Value) (xs ys : List Int) (w : World) (ha : RowI w a xs) (hb : RowI w b ys) (hxl : xs.length ≤ 9223372036854775807) (hyl : ys.length ≤ 9223372036854775807) :
    Calls Try.prog 15 #[a, b] w fun e w' => e = .returned (.bool (decide (xs = ys))) ∧ Below w.heap.size w w' := by
  by_cases hl : xs.length = ys.length
  · rcases ha with ⟨rfl, a1, c1, rfl⟩ | ⟨b1, o1, c1, rfl, h0, hb1, hc1⟩
    · obtain rfl : ys = [] := List.length_eq_zero_iff.mp hl.symm
      rcases hb with ⟨_, a2, c2, rfl⟩ | ⟨b2, o2, c2, rfl, h0, _⟩
      · go_enter Try.func15, Try.ntmps15
        go_wp2_with fail
        refine wp_loop_rounds 1 ?_
        rw [rounds_succ]
        go_wp2_with fail
        go_ret
        exact ⟨rfl, Below.refl _ _⟩
      · simp at h0
    · rcases hb with ⟨rfl, a2, c2, rfl⟩ | ⟨b2, o2, c2, rfl, _, hb2, hc2⟩
      · simp at hl; subst hl; simp at h0
      · have hl1 : ((xs.length : Int) == (ys.length : Int)) = true := by simp; omega
        have hl2 : ((xs.length : Int) != (ys.length : Int)) = false := by simp; omega
        have HL := Lib.hid hl
        clear hl
        go_enter Try.func15, Try.ntmps15
        go_wp2_with fail
        go_loopw [5] (fun i wr => ∃ k : Nat, i = .int .i64 k ∧ k ≤ xs.length ∧ Hid (xs.take k = ys.take k) ∧ Below w.heap.size w wr) (fun i _ => xs.length - (intOf i).toNat)
        case atStart => exact ⟨0, rfl, Nat.zero_le _, Lib.hid (by simp), Below.refl _ _⟩
        case round =>
          obtain ⟨k, rfl, hk, HT, hbl⟩ := hrel
          by_cases hlt : k < xs.length
          · have hlt' : (k : Int) < (xs.length : Int) := by omega
            have hlt2 : (k : Int) < (ys.length : Int) := by have := HL.out; omega
            have q0 : (0 : Int) ≤ (k : Int) := by omega
            have hx : wr.cell? ⟨b1, o1 + k, none⟩ = some (.int .i64 (xs[k]?.getD 0)) := (hbl.cell (p := ⟨b1, o1 + k, none⟩) hb1).trans (hc1 k hlt)
            have hy : wr.cell? ⟨b2, o2 + k, none⟩ = some (.int .i64 (ys[k]?.getD 0)) := (hbl.cell (p := ⟨b2, o2 + k, none⟩) hb2).trans (hc2 k (by omega))
            obtain ⟨x, hxe⟩ : ∃ x, x = xs[k]?.getD 0 := ⟨_, rfl⟩
            obtain ⟨y, hye⟩ : ∃ y, y = ys[k]?.getD 0 := ⟨_, rfl⟩
            rw [← hxe] at hx
            rw [← hye] at hy
            have HX := Lib.hid hxe
            have HY := Lib.hid hye
            clear hxe hye hc1 hc2
            by_cases he : x = y
            · subst he
              have HT' := Lib.hid (take_eq_stepI hlt (by omega) HT.out (HX.out.symm.trans HY.out))
              go_wp2_with fail
              go_quiet (fail)
              go_wp2_with fail
              go_roundw
              case rel => exact ⟨k + 1, by go_num, by omega, HT', below_drewN hbl _⟩
              case measure => simp [intOf]; omega
            · have e1 : (x == y) = false := by simp; omega
              have e2 : (x != y) = true := by simp; omega
              have HD : Hid (decide (xs = ys) = false) := Lib.hid (by simp; rintro rfl; exact he (HX.out.trans HY.out.symm))
              clear he
              go_wp2_with fail
              go_quiet (fail)
              go_wp2_with fail
              go_ret
              exact ⟨ret_b HD.out.symm, below_drewN hbl _⟩
          · have hlt' : ¬ (k : Int) < (xs.length : Int) := by omega
            have HD : Hid (decide (xs = ys) = true) := Lib.hid (by
              have h1 := HT.out
              rw [List.take_of_length_le (by omega), List.take_of_length_le (by have := HL.out; omega)] at h1
              simp [h1])
            clear hc1 hc2
            go_wp2_with fail
            go_ret
            exact ⟨ret_b HD.out.symm, hbl⟩
  · have hne : ((xs.length : Int) == (ys.length : Int)) = false := by simp; omega
    have hne2 : ((xs.length : Int) != (ys.length : Int)) = true := by simp; omega
    have HD : Hid (decide (xs = ys) = false) := Lib.hid (by simp; rintro rfl; exact hl rfl)
    have ea : ∃ p c, a = .slice p xs.length c := by
      rcases ha with ⟨rfl, a1, c1, rfl⟩ | ⟨b1, o1, c1, rfl, _⟩
      · exact ⟨_, _, rfl⟩
      · exact ⟨_, _, rfl⟩
    have eb : ∃ p c, b = .slice p ys.length c := by
      rcases hb with ⟨rfl, a1, c1, rfl⟩ | ⟨b1, o1, c1, rfl, _⟩
      · exact ⟨_, _, rfl⟩
      · exact ⟨_, _, rfl⟩
    clear hl
    obtain ⟨p1, c1, rfl⟩ := ea
    obtain ⟨p2, c2, rfl⟩ := eb
    clear ha hb
    go_enter Try.func15, Try.ntmps15
    go_wp2_with fail
    go_ret
    exact ⟨ret_b HD.out.symm, Below.refl _ _⟩
end Go.Proofs.Ytdbocnjphidliaa
