/-
  The walk of tollbarlaw02.alive: the chapter's examples.
-/
import Derived.Test.YtdbocnjphidliaaSOf
namespace Go.Proofs.Ytdbocnjphidliaa
open Go.RowKit SetM

theorem below_next {w wx w1 : World} (h : Below w.heap.size w wx) (k : Below wx.heap.size wx w1) : Below w.heap.size w w1 := h.trans (k.mono h.size)

theorem least_at {s k : Nat} {b : Bool} (w : World) (hs : s < 18446744073709551616) (h : Hid (((nums s).head?.map fun k => k.val).getD 0 = k ∧ (nums s).head?.isSome = b)) :
    Calls Try.prog 6 #[.int .u64 (s : Int)] w fun e w' => e = .returned (.tuple #[.int .i64 (k : Int), .bool b]) ∧ Below w.heap.size w w' := by
  have := least_any s hs w
  rw [h.out.1, h.out.2] at this; exact this
theorem in_at {s b : Nat} {x : Bool} (w : World) (hs : s < 18446744073709551616) (hb : b < 18446744073709551616) (h : Hid (inS s b = x)) :
    Calls Try.prog 17 #[.int .u64 (s : Int), .int .u64 (b : Int)] w fun e w' => e = .returned (.bool x) ∧ Below w.heap.size w w' := by
  have := in_any s b hs hb w
  rw [h.out] at this; exact this
theorem len_at {s n : Nat} (w : World) (hs : s < 18446744073709551616) (h : Hid ((nums s).length = n)) :
    Calls Try.prog 14 #[.int .u64 (s : Int)] w fun e w' => e = .returned (.int .i64 (n : Int)) ∧ Below w.heap.size w w' := by
  have := len_any s hs w
  rw [h.out] at this; exact this
theorem list_at {s : Nat} {xs : List Int} (w : World) (hs : s < 18446744073709551616) (h : Hid (ints (nums s) = xs)) :
    Calls Try.prog 16 #[.int .u64 (s : Int)] w fun e w' => ∃ v, e = .returned v ∧ Hid (RowI w' v xs) ∧ Below w.heap.size w w' := by
  have := list_any s hs w
  rw [h.out] at this
  refine this.mono ?_
  rintro e w' ⟨v, h1, h2, h3⟩
  exact ⟨v, h1, Lib.hid (RowI.of_owns h2), h3⟩
theorem rList_at {s : Nat} {xs : List Int} (w : World) (hs : s < 18446744073709551616) (h : Hid (ints (nums s) = xs)) :
    Calls Try.prog 7 #[.int .u64 (s : Int)] w fun e w' => ∃ v, e = .returned v ∧ Hid (RowI w' v xs) ∧ Below w.heap.size w w' := by
  have := rList_any s hs w
  rw [h.out] at this
  refine this.mono ?_
  rintro e w' ⟨v, h1, h2, h3⟩
  exact ⟨v, h1, Lib.hid (RowI.of_owns h2), h3⟩
theorem has_at {s : Nat} {k : Int} {b : Bool} (w : World) (hs : s < 18446744073709551616) (h1 : -9223372036854775808 ≤ k) (h2 : k ≤ 9223372036854775807) (h : Hid (has s k = b)) :
    Calls Try.prog 8 #[.int .u64 s, .int .i64 k] w fun e w' => e = .returned (.bool b) ∧ w' = w := by
  have := has_any s k hs h1 h2 w
  rw [h.out] at this; exact this
theorem with_at {s t : Nat} {k : Int} (w : World) (hs : s < 18446744073709551616) (h1 : -9223372036854775808 ≤ k) (h2 : k ≤ 9223372036854775807) (h : Hid (withN s k = t)) :
    Calls Try.prog 10 #[.int .u64 s, .int .i64 k] w fun e w' => e = .returned (.int .u64 (t : Int)) ∧ w' = w := by
  have := with_any s k hs h1 h2 w
  rw [h.out] at this; exact this
theorem less_at {s t : Nat} {k : Int} (w : World) (hs : s < 18446744073709551616) (h1 : -9223372036854775808 ≤ k) (h2 : k ≤ 9223372036854775807) (h : Hid (lessN s k = t)) :
    Calls Try.prog 12 #[.int .u64 s, .int .i64 k] w fun e w' => e = .returned (.int .u64 (t : Int)) ∧ w' = w := by
  have := less_any s k hs h1 h2 w
  rw [h.out] at this; exact this
theorem of_at {v : Value} {xs : List Int} {t : Nat} (w : World) (hr : RowI w v xs) (hx : Ints xs) (hlen : xs.length ≤ 1000) (h : Hid (ofL xs = t)) :
    Calls Try.prog 19 #[v] w fun e w' => e = .returned (.int .u64 (t : Int)) ∧ w' = w := by
  have := of_any v xs w hr hx hlen
  rw [h.out] at this; exact this

theorem row_lit3 (w : World) (x y z : Int) : RowI (w.alloc (.cells #[.int .i64 x, .int .i64 y, .int .i64 z] 3)) (.slice (some ⟨w.heap.size, 0, none⟩) 3 3) [x, y, z] :=
  RowI.of_owns (base := 0) (World.ownsRow_lit (size := 1) w #[.int .i64 x, .int .i64 y, .int .i64 z] 3 (Nat.zero_le _) (by unfold maxLen; omega) rfl)
theorem row_lit2 (w : World) (x y : Int) : RowI (w.alloc (.cells #[.int .i64 x, .int .i64 y] 3)) (.slice (some ⟨w.heap.size, 0, none⟩) 2 2) [x, y] :=
  RowI.of_owns (base := 0) (World.ownsRow_lit (size := 1) w #[.int .i64 x, .int .i64 y] 2 (Nat.zero_le _) (by unfold maxLen; omega) rfl)

theorem k1 : ((nums 8).head?.map fun k => k.val).getD 0 = 3 ∧ (nums 8).head?.isSome = true := by decide +kernel
theorem k2 : ((nums 0).head?.map fun k => k.val).getD 0 = 0 ∧ (nums 0).head?.isSome = false := by decide +kernel
theorem k3 : ofL [3, 0, 64] = 9 := by decide +kernel
theorem k4 : ints (nums 9) = [0, 3] := by decide +kernel
theorem k5 : lessN 9 0 = 8 := by decide +kernel
theorem k6 : inS 8 9 = true := by decide +kernel
theorem k7 : inS 9 8 = false := by decide +kernel
theorem k8 : (nums 9).length = 2 := by decide +kernel
theorem k9 : has 9 3 = true := by decide +kernel
theorem k10 : withN 8 0 = 9 := by decide +kernel

set_option maxRecDepth 100000 in
set_option maxHeartbeats 800000 in
theorem alive_any (w : World) : Calls Try.prog 5 #[] w fun e w' => e = .returned (.bool true) ∧ Below w.heap.size w w' := by
  go_enter Try.func5, Try.ntmps5
  go_wp2_with fail
  refine (least_at (s := 8) _ (by decide) (Lib.hid k1)).mono ?_
  rintro x w1 ⟨rfl, hb1⟩
  go_wp2_with fail
  refine (least_at (s := 0) _ (by decide) (Lib.hid k2)).mono ?_
  rintro x w2 ⟨rfl, hb2⟩
  go_wp2_with fail
  have hbA : Below w.heap.size w (w2.alloc (.cells #[.int .i64 3, .int .i64 0, .int .i64 64] 3)) := (below_next hb1 hb2).alloc (below_next hb1 hb2).size _
  refine (of_at _ (row_lit3 w2 3 0 64) (by intro x hx; simp at hx; omega) (by decide) (Lib.hid k3)).mono ?_
  rintro x w3 ⟨rfl, rfl⟩
  clear hb1 hb2
  generalize w2.alloc (.cells #[.int .i64 3, .int .i64 0, .int .i64 64] 3) = w3 at hbA ⊢
  go_wp2_with fail
  refine (list_at (s := 9) _ (by decide) (Lib.hid k4)).mono ?_
  rintro x w4 ⟨v', rfl, hrow, hb4⟩
  go_wp2_with fail
  have hr1 : RowI (w4.alloc (.cells #[.int .i64 0, .int .i64 3] 3)) v' [0, 3] := hrow.out.below ((Below.refl _ _).alloc (Nat.le_refl _) _)
  have hr2 : RowI (w4.alloc (.cells #[.int .i64 0, .int .i64 3] 3)) (.slice (some ⟨w4.heap.size, 0, none⟩) 2 2) [0, 3] := row_lit2 w4 0 3
  have hbB : Below w.heap.size w (w4.alloc (.cells #[.int .i64 0, .int .i64 3] 3)) := (below_next hbA hb4).alloc (below_next hbA hb4).size _
  refine (same_any _ _ _ _ _ hr1 hr2 (by decide) (by decide)).mono ?_
  rintro x w5 ⟨rfl, hb5⟩
  have hb := below_next hbB hb5
  clear hr1 hr2 hrow hbA hb4 hbB hb5
  go_wp2_with fail
  refine (less_at (s := 9) (k := 0) _ (by decide) (by decide) (by decide) (Lib.hid k5)).mono ?_
  rintro x w6 ⟨rfl, rfl⟩
  go_wp2_with fail
  refine (in_at (s := 8) (b := 9) _ (by decide) (by decide) (Lib.hid k6)).mono ?_
  rintro x w7 ⟨rfl, hb7⟩
  go_wp2_with fail
  refine (in_at (s := 9) (b := 8) _ (by decide) (by decide) (Lib.hid k7)).mono ?_
  rintro x w8 ⟨rfl, hb8⟩
  go_wp2_with fail
  refine (len_at (s := 9) _ (by decide) (Lib.hid k8)).mono ?_
  rintro x w9 ⟨rfl, hb9⟩
  go_wp2_with fail
  refine (has_at (s := 9) (k := 3) _ (by decide) (by decide) (by decide) (Lib.hid k9)).mono ?_
  rintro x w10 ⟨rfl, rfl⟩
  go_wp2_with fail
  refine (with_at (s := 8) (k := 0) _ (by decide) (by decide) (by decide) (Lib.hid k10)).mono ?_
  rintro x w11 ⟨rfl, rfl⟩
  have hbE := below_next (below_next (below_next hb hb7) hb8) hb9
  clear hb hb7 hb8 hb9
  go_wp2_with fail
  go_ret
  exact ⟨rfl, hbE⟩
end Go.Proofs.Ytdbocnjphidliaa
