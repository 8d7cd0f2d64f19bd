/-
  The walks of tollbarlaw03.nothing and alive.
-/
import Derived.Test.YtpkpjogpkigmlaaRRef
namespace Go.Proofs.Ytpkpjogpkigmlaa
open Go.RowKit

theorem below_own {b B : Nat} {w wr w' : World} (h : Below b w wr) (hg : wr.grownBy w' (some B)) (hB : b ≤ B) (hs : b ≤ wr.heap.size) : Below b w w' := h.grown hg hs (fun k e => by cases e; exact hB)

set_option maxHeartbeats 400000 in
theorem nothing_any (w : World) : Calls Try.prog 6 #[] w fun e w' => e = .returned (.bool true) ∧ Below w.heap.size w w' := by
  go_enter Try.func6, Try.ntmps6
  go_wp2_with fail
  refine (take_nil _).mono ?_
  rintro e w1 ⟨rfl, rfl⟩
  go_wp2_with fail
  refine (swap_nil 1 _).mono ?_
  rintro e w2 ⟨rfl, hb2⟩
  go_wp2_with fail
  refine (front_nil _).mono ?_
  rintro e w3 ⟨rfl, hb3⟩
  go_wp2_with fail
  refine (put_nil 1 _).mono ?_
  rintro e w4 ⟨rfl, rfl⟩
  go_wp2_with fail
  refine (len_nil _).mono ?_
  rintro e w4 ⟨rfl, rfl⟩
  go_wp2_with fail
  refine (cap_nil _).mono ?_
  rintro e w4 ⟨rfl, rfl⟩
  go_wp2_with fail
  refine (list_nil _).mono ?_
  rintro e w5 ⟨a, c, rfl, hb5⟩
  go_wp2_with fail
  refine (copy_nil _).mono ?_
  rintro e w6 ⟨rfl, rfl⟩
  go_wp2_with fail
  go_ret
  exact ⟨rfl, below_next (below_next hb2 hb3) hb5⟩

theorem new_two (w : World) :
    Calls Try.prog 7 #[.int .i64 2] w fun e w' => e = .returned (.tuple #[.pointer (some ⟨w.heap.size, 0, none⟩), .int .i64 0]) ∧ Rng w' w.heap.size 2 [] ∧ Below w.heap.size w w' :=
  (new_ok 2 w (by omega)).mono fun _ _ ⟨h1, h2, h3⟩ => ⟨h1, h2, (Below.refl _ _).grown h3 (Nat.le_refl _) (fun _ e => by cases e)⟩
theorem new_nine (w : World) :
    Calls Try.prog 7 #[.int .i64 9] w fun e w' => e = .returned (.tuple #[.pointer none, .int .i64 2]) ∧ w' = w := new_bad 9 w (by omega) (by omega) (by omega)
/-- A step on a ring that the call laid. -/
theorem put_own {b B m : Nat} {ys : List Int} (v : Int) (w0 w : World) (hR : Rng w B m ys) (hb : Below b w0 w) (h0 : b ≤ B) (k : Int) (l : List Int) (hk : putE m ys = k) (hl : putL m ys v = l) :
    Calls Try.prog 8 #[.pointer (some ⟨B, 0, none⟩), .int .i64 v] w fun e w' => e = .returned (.int .i64 k) ∧ Rng w' B m l ∧ Below b w0 w' := by
  subst hk hl
  exact (put_ring v w hR).mono fun _ _ ⟨h1, h2, h3⟩ => ⟨h1, h2, below_own hb h3 h0 (Nat.le_of_lt (Nat.lt_of_le_of_lt h0 hR.lt))⟩
theorem take_own {b B m : Nat} {ys : List Int} (w0 w : World) (hR : Rng w B m ys) (hb : Below b w0 w) (h0 : b ≤ B) (x k : Int) (l : List Int) (hx : ys.head?.getD 0 = x) (hk : takeE ys = k) (hl : ys.tail = l) :
    Calls Try.prog 10 #[.pointer (some ⟨B, 0, none⟩)] w fun e w' => e = .returned (.tuple #[.int .i64 x, .int .i64 k]) ∧ Rng w' B m l ∧ Below b w0 w' := by
  subst hk hl hx
  exact (take_ring w hR).mono fun _ _ ⟨h1, h2, h3⟩ => ⟨h1, h2, below_own hb h3 h0 (Nat.le_of_lt (Nat.lt_of_le_of_lt h0 hR.lt))⟩
theorem swap_own {b B m : Nat} {ys : List Int} (v : Int) (w0 w : World) (hR : Rng w B m ys) (hb : Below b w0 w) (h0 : b ≤ B) (x k : Int) (l : List Int) (hx : swapV m ys = x) (hk : swapE m ys = k) (hl : swapL m ys v = l) :
    Calls Try.prog 12 #[.pointer (some ⟨B, 0, none⟩), .int .i64 v] w fun e w' => e = .returned (.tuple #[.int .i64 x, .int .i64 k]) ∧ Rng w' B m l ∧ Below b w0 w' := by
  subst hk hl hx
  exact (swap_ring v w hR).mono fun _ _ ⟨h1, h2, h3⟩ => ⟨h1, h2, below_own hb h3 h0 (Nat.le_of_lt (Nat.lt_of_le_of_lt h0 hR.lt))⟩

set_option maxHeartbeats 400000 in
theorem alive_any (w : World) : Calls Try.prog 5 #[] w fun e w' => e = .returned (.bool true) ∧ Below w.heap.size w w' := by
  go_enter Try.func5, Try.ntmps5
  go_wp2_with fail
  refine (new_two _).mono ?_
  rintro e w1 ⟨rfl, hR, hb⟩
  go_wp2_with fail
  refine (new_nine _).mono ?_
  rintro e w2 ⟨rfl, rfl⟩
  go_wp2_with fail
  refine (put_own 5 w _ hR hb (Nat.le_refl _) 0 [5] rfl rfl).mono ?_
  clear hR hb
  rintro e w2 ⟨rfl, hR, hb⟩
  go_wp2_with fail
  refine (put_own 6 w _ hR hb (Nat.le_refl _) 0 [5, 6] rfl rfl).mono ?_
  clear hR hb
  rintro e w2 ⟨rfl, hR, hb⟩
  go_wp2_with fail
  refine (put_own 7 w _ hR hb (Nat.le_refl _) 4 [5, 6] rfl rfl).mono ?_
  clear hR hb
  rintro e w2 ⟨rfl, hR, hb⟩
  go_wp2_with fail
  refine (swap_own 7 w _ hR hb (Nat.le_refl _) 5 0 [6, 7] rfl rfl rfl).mono ?_
  clear hR hb
  rintro e w2 ⟨rfl, hR, hb⟩
  go_wp2_with fail
  refine (take_own w _ hR hb (Nat.le_refl _) 6 0 [7] rfl rfl rfl).mono ?_
  clear hR hb
  rintro e w2 ⟨rfl, hR, hb⟩
  go_wp2_with fail
  refine (take_own w _ hR hb (Nat.le_refl _) 7 0 [] rfl rfl rfl).mono ?_
  clear hR hb
  rintro e w2 ⟨rfl, hR, hb⟩
  go_wp2_with fail
  refine (take_own w _ hR hb (Nat.le_refl _) 0 3 [] rfl rfl rfl).mono ?_
  clear hR hb
  rintro e w2 ⟨rfl, hR, hb⟩
  go_wp2_with fail
  go_ret
  exact ⟨rfl, hb⟩
end Go.Proofs.Ytpkpjogpkigmlaa
