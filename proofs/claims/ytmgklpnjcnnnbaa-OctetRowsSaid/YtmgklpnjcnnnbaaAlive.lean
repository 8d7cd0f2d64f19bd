/-
  The walk of tollbarlaw01.alive: the chapter's examples.
-/
import Derived.Test.YtmgklpnjcnnnbaaGetRow
namespace Go.Proofs.Ytmgklpnjcnnnbaa
open Go.RowKit Oct

theorem num_at {v : Nat} {l : List UInt8} (w : World) (hv : v < 18446744073709551616) (h : Hid (numL v = l)) :
    Calls Try.prog 8 #[.int .u64 v] w fun e w' => e = .returned (.string ⟨l.toArray⟩) ∧ Below w.heap.size w w' := by
  have := num_any v w hv
  rw [h.out] at this; exact this
theorem int_at {v : Int} {l : List UInt8} (w : World) (h1 : -9223372036854775808 ≤ v) (h2 : v ≤ 9223372036854775807) (h : Hid (numL (foldN v) = l)) :
    Calls Try.prog 12 #[.int .i64 v] w fun e w' => e = .returned (.string ⟨l.toArray⟩) ∧ Below w.heap.size w w' := by
  have := int_any v w h1 h2
  rw [h.out] at this; exact this

theorem k1 : getR [128] = (0, [], 6) := by rw [← getG_eq]; rfl
theorem k2 : getR [128, 0] = (0, [], 7) := by rw [← getG_eq]; rfl
theorem k3 : getR [172, 2, 9] = (300, [9], 0) := by rw [← getG_eq]; rfl
theorem k4 : rowR 2 [1, 2, 120] = ([1, 2], [120], 0) := by
  have a1 : getR [1, 2, 120] = (1, [2, 120], 0) := by rw [← getG_eq]; rfl
  have a2 : getR [2, 120] = (2, [120], 0) := by rw [← getG_eq]; rfl
  show rowG 2 [] [1, 2, 120] = _
  simp [rowG, a1, a2]
theorem k5 : numL 0 = [0] := by rw [numL_small (by omega)]; rfl
theorem k6 : numL 300 = [172, 2] := by rw [numL_big (by omega), numL_small (by omega)]; rfl
theorem k7 : numL (foldN (-1)) = [1] := by rw [show foldN (-1) = 1 from rfl, numL_small (by omega)]; rfl
theorem k8 : numL (foldN 1) = [2] := by rw [show foldN 1 = 2 from rfl, numL_small (by omega)]; rfl

theorem getRow_at {xs : List Nat} {r : List UInt8} {e : Nat} (s : ByteArray) (n : Int) (w : World) (hs : s.size ≤ 1000000) (hn1 : -9223372036854775808 ≤ n) (hn2 : n ≤ 9223372036854775807) (h : Hid (rowR n s.data.toList = (xs, r, e))) :
    Calls Try.prog 21 #[.string s, .int .i64 n] w fun x w' => ∃ v', x = .returned (.tuple #[v', .string ⟨r.toArray⟩, .int .i64 e]) ∧ Hid (Row64 w' v' xs) ∧ Below w.heap.size w w' := by
  refine (getRow_any s n w hs hn1 hn2).mono ?_
  rw [h.out]
  rintro x w' ⟨v', h1, h2, h3⟩
  exact ⟨v', h1, Lib.hid (Row64.of_owns h2), h3⟩
theorem refGetRow_at {xs : List Nat} {r : List UInt8} {e : Nat} (s : ByteArray) (n : Int) (w : World) (hs : s.size ≤ 1000000) (hn1 : -9223372036854775808 ≤ n) (hn2 : n ≤ 9223372036854775807) (h : Hid (rowR n s.data.toList = (xs, r, e))) :
    Calls Try.prog 22 #[.string s, .int .i64 n] w fun x w' => ∃ v', x = .returned (.tuple #[v', .string ⟨r.toArray⟩, .int .i64 e]) ∧ Hid (Row64 w' v' xs) ∧ Below w.heap.size w w' := by
  refine (refGetRow_any s n w hs hn1 hn2).mono ?_
  rw [h.out]
  rintro x w' ⟨v', h1, h2, h3⟩
  exact ⟨v', h1, Lib.hid (Row64.of_owns h2), h3⟩

theorem row_lit2 (w : World) (x y : Nat) : Row64 (w.alloc (.cells #[.int .u64 (x : Int), .int .u64 (y : Int)] 22)) (.slice (some ⟨w.heap.size, 0, none⟩) 2 2) [x, y] :=
  Row64.of_owns (base := 0) (World.ownsRow_lit (size := 1) w #[.int .u64 (x : Int), .int .u64 (y : Int)] 2 (Nat.zero_le _) (by unfold maxLen; omega) rfl)

set_option maxRecDepth 100000 in
set_option maxHeartbeats 800000 in
theorem alive_any (w : World) : Calls Try.prog 7 #[] w fun e w' => e = .returned (.bool true) ∧ Below w.heap.size w w' := by
  have hsz : ∀ s : ByteArray, s.size ≤ 3 → s.size ≤ maxLen := fun s h => by unfold maxLen; omega
  go_enter Try.func7, Try.ntmps7
  go_wp2_with fail
  refine (get_at _ _ (hsz _ (by decide)) (Lib.hid k1)).mono ?_
  rintro x w1 ⟨rfl, hb1⟩
  go_wp2_with fail
  refine (get_at _ _ (hsz _ (by decide)) (Lib.hid k2)).mono ?_
  rintro x w2 ⟨rfl, hb2⟩
  go_wp2_with fail
  refine (get_at _ _ (hsz _ (by decide)) (Lib.hid k3)).mono ?_
  rintro x w3 ⟨rfl, hb3⟩
  go_wp2_with fail
  refine (getRow_at _ _ _ (by decide) (by decide) (by decide) (Lib.hid k4)).mono ?_
  rintro x w4 ⟨v', rfl, hrow, hb4⟩
  go_wp2_with fail
  refine (num_at _ (by decide) (Lib.hid k5)).mono ?_
  rintro x w5 ⟨rfl, hb5⟩
  go_wp2_with fail
  refine (num_at _ (by decide) (Lib.hid k6)).mono ?_
  rintro x w6 ⟨rfl, hb6⟩
  go_wp2_with fail
  refine (int_at _ (by decide) (by decide) (Lib.hid k7)).mono ?_
  rintro x w7 ⟨rfl, hb7⟩
  go_wp2_with fail
  refine (int_at _ (by decide) (by decide) (Lib.hid k8)).mono ?_
  rintro x w8 ⟨rfl, hb8⟩
  go_wp2_with fail
  have hb48 : Below w4.heap.size w4 w8 := below_next (below_next (below_next hb5 hb6) hb7) hb8
  have hb08 : Below w.heap.size w w8 := below_next (below_next (below_next (below_next hb1 hb2) hb3) hb4) hb48
  have hr1 : Row64 (w8.alloc (.cells #[.int .u64 1, .int .u64 2] 22)) v' [1, 2] := hrow.out.below (hb48.alloc hb48.size _)
  have hr2 : Row64 (w8.alloc (.cells #[.int .u64 1, .int .u64 2] 22)) (.slice (some ⟨w8.heap.size, 0, none⟩) 2 2) [1, 2] := row_lit2 w8 1 2
  have hb09 : Below w.heap.size w (w8.alloc (.cells #[.int .u64 1, .int .u64 2] 22)) := hb08.alloc hb08.size _
  refine (same_any _ _ _ _ _ hr1 hr2 (by decide) (by decide)).mono ?_
  rintro x w9 ⟨rfl, hb9⟩
  have hb := below_next hb09 hb9
  clear hr1 hr2 hrow hb1 hb2 hb3 hb4 hb5 hb6 hb7 hb8 hb48 hb08 hb09 hb9
  go_wp2_with fail
  go_ret
  exact ⟨rfl, hb⟩
end Go.Proofs.Ytmgklpnjcnnnbaa
