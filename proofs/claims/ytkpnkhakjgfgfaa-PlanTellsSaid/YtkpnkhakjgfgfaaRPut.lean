/-
  The walks of ring.Put, Take, Swap.
-/
import Derived.Test.YtkpnkhakjgfgfaaRFront
namespace Go.Proofs.Ytkpnkhakjgfgfaa.Rg
open Go.RowKit

theorem put_nil (v : Int) (w : World) :
    Calls Try.prog 41 #[.pointer none, .int .i64 v] w fun e w' => e = .returned (.int .i64 1) ∧ w' = w := by
  go_enter Try.func41, Try.ntmps41
  go_wp2_with fail
  go_ret
  exact ⟨rfl, rfl⟩
theorem take_nil (w : World) :
    Calls Try.prog 42 #[.pointer none] w fun e w' => e = .returned (.tuple #[.int .i64 0, .int .i64 1]) ∧ w' = w := by
  go_enter Try.func42, Try.ntmps42
  go_wp2_with fail
  go_ret2
  exact ⟨rfl, rfl⟩

theorem grownBy_drewN (w : World) (n : Nat) (row : Option Nat) : w.grownBy (w.drewN n) row := ⟨rfl, rfl, rfl, Nat.le_refl _, fun _ _ _ => rfl⟩
theorem grownBy_setCell (W : World) (p : Addr) (v : Value) : W.grownBy (W.setCell p v) (some p.block) :=
  ⟨rfl, rfl, rfl, (KeepsWalks.setCell W _ v).size, fun k _ hk => Below.heap_setCell _ _ _ k (fun e => hk (by rw [e]))⟩
theorem grownBy_but {a c : World} (h : a.grownBy c none) (row : Option Nat) : a.grownBy c row := ⟨h.os, h.tape, h.output, h.size, fun i hi _ => h.block i hi (by simp)⟩
theorem grown_set {w w' : World} {B : Nat} (h : w.grownBy w' (some B)) (k : Nat) (v : Value) : w.grownBy (w'.setCell ⟨B, k, none⟩ v) (some B) := h.trans (grownBy_setCell w' ⟨B, k, none⟩ v)
theorem grown_drew {w w' : World} {row : Option Nat} (h : w.grownBy w' row) : w.grownBy w'.drew row := ⟨h.os, h.tape, h.output, h.size, h.block⟩
theorem RawAt.drewN {W : World} {B : Nat} {vs : List Int} {f n m : Nat} (k : Nat) (h : RawAt W B vs f n m) : RawAt (W.drewN k) B vs f n m := h
theorem Rng.drewN {W : World} {B m : Nat} {l : List Int} (k : Nat) (h : Rng W B m l) : Rng (W.drewN k) B m l := h

set_option maxHeartbeats 400000 in
theorem put_full {B m : Nat} {ys : List Int} (v : Int) (w : World) (hR : Rng w B m ys) (hfull : ys.length = m) :
    Calls Try.prog 41 #[.pointer (some ⟨B, 0, none⟩), .int .i64 v] w fun e w' => e = .returned (.int .i64 4) ∧ Rng w' B m ys ∧ w.grownBy w' none := by
  obtain ⟨vs, f, hr, -⟩ := id hR
  have hN := hr.cellN
  have hM := hr.cellM
  have ht : ((ys.length : Int) == (m : Int)) = true := by simp; omega
  clear hr
  go_enter Try.func41, Try.ntmps41
  go_wp2_with fail
  go_quiet (fail)
  go_wp2_with fail
  go_ret
  exact ⟨rfl, hR.drewN _, grownBy_drewN _ _ _⟩

set_option maxRecDepth 100000 in
set_option maxHeartbeats 400000 in
theorem put_room {B m : Nat} {ys : List Int} (v : Int) (w : World) (hR : Rng w B m ys) (hfull : ys.length ≠ m) :
    Calls Try.prog 41 #[.pointer (some ⟨B, 0, none⟩), .int .i64 v] w fun e w' => e = .returned (.int .i64 0) ∧ Rng w' B m (ys ++ [v]) ∧ w.grownBy w' (some B) := by
  obtain ⟨vs, f, hr, hys, hf, hnm, hm⟩ := id hR
  have HY := Lib.hid hys
  have hN := hr.cellN
  have hM := hr.cellM
  have ht : ((ys.length : Int) == (m : Int)) = false := by simp; omega
  have hs := slotOf_lt f ys.length
  have hs1 : (0 : Int) ≤ (slotOf f ys.length : Int) := by omega
  have hs2 : (slotOf f ys.length : Int) < 8 := by omega
  clear hys hR
  go_enter Try.func41, Try.ntmps41
  go_wp2_with fail
  go_quiet (fail)
  go_wp2_with fail
  refine (place_box B _).mono ?_
  rintro e w1 ⟨rfl, hP, hg⟩
  have hg0 : w.grownBy w1 none := (grownBy_drewN w _ none).trans hg
  have hr1 := hr.kept hg0 (by simp)
  have hN1 := hr1.cellN
  have hM1 := hr1.cellM
  have hP1 := hP.cell
  have hz := hr1.frozen (slotOf f ys.length)
  have hc := hr1.cellV hs
  have hz9 := hr1.frozen 9
  have hcall := place1_ring (B := B) (C := w.heap.size) (f := f) (i := ys.length) w1.drew hr1.drew hf (by omega) hP1
  go_wp2_with fail
  refine wp_region_still_tail 11 (by kernel_rfl) (by kernel_rfl) ?_
  simp only [List.take_succ_cons, List.take_zero, List.drop_succ_cons, List.drop_zero]
  change wpStill _ _ w1.drew (fun a' => wpList _ _ _ _ a' w1.drew) _ _
  repeat still_step
  still_call hcall
  repeat still_step
  refine wpStill_nil ?_
  go_wp2_with fail
  go_ret
  refine ⟨rfl, Rng.mk' (n := ys.length + 1) ((hr1.setV hs v).setN (ys.length + 1) (by omega)).drew ?_ (by simp) hf (by omega) hm, ?_⟩
  · rw [heldBy_put hr1.1 (by omega), ← HY.out]
  · exact grown_drew (grown_set (grown_set (grownBy_but hg0 _) _ _) _ _)

theorem put_ring {B m : Nat} {ys : List Int} (v : Int) (w : World) (hR : Rng w B m ys) :
    Calls Try.prog 41 #[.pointer (some ⟨B, 0, none⟩), .int .i64 v] w fun e w' => e = .returned (.int .i64 (putE m ys)) ∧ Rng w' B m (putL m ys v) ∧ w.grownBy w' (some B) := by
  by_cases h : ys.length = m
  · rw [putE, if_pos h, putL, if_pos h]
    exact (put_full v w hR h).mono fun _ _ ⟨h1, h2, h3⟩ => ⟨h1, h2, grownBy_but h3 _⟩
  · rw [putE, if_neg h, putL, if_neg h]
    exact put_room v w hR h

theorem grownBy_of_below {w w' : World} (h : Below w.heap.size w w') : w.grownBy w' none := ⟨h.os, h.tape, h.output, h.size, fun k hk _ => h.block k hk⟩

set_option maxHeartbeats 400000 in
theorem take_none {B m : Nat} (w : World) (hR : Rng w B m []) :
    Calls Try.prog 42 #[.pointer (some ⟨B, 0, none⟩)] w fun e w' => e = .returned (.tuple #[.int .i64 0, .int .i64 3]) ∧ Rng w' B m [] ∧ w.grownBy w' (some B) := by
  go_enter Try.func42, Try.ntmps42
  go_wp2_with fail
  refine (front_ring _ hR).mono ?_
  rintro e w1 ⟨rfl, hb⟩
  simp only [List.head?_nil, Option.getD_none, Option.isSome_none]
  go_wp2_with fail
  go_ret2
  exact ⟨rfl, hR.below hb, grownBy_but (grownBy_of_below hb) _⟩

set_option maxHeartbeats 400000 in
theorem take_some {B m : Nat} {x : Int} {t : List Int} (w : World) (hR : Rng w B m (x :: t)) :
    Calls Try.prog 42 #[.pointer (some ⟨B, 0, none⟩)] w fun e w' => e = .returned (.tuple #[.int .i64 x, .int .i64 0]) ∧ Rng w' B m t ∧ w.grownBy w' (some B) := by
  obtain ⟨vs, f, hr, hys, hf, hnm, hm⟩ := id hR
  have HY := Lib.hid hys
  rw [List.length_cons] at hnm hr
  have hf1 : (0 : Int) ≤ (f : Int) := by omega
  have hf2 : (f : Int) < 8 := by omega
  clear hys
  go_enter Try.func42, Try.ntmps42
  go_wp2_with fail
  refine (front_ring _ hR).mono ?_
  rintro e w1 ⟨rfl, hb⟩
  simp only [List.head?_cons, Option.getD_some, Option.isSome_some]
  go_wp2_with fail
  refine (place_box B _).mono ?_
  rintro e w2 ⟨rfl, hP, hg⟩
  have hg0 : w.grownBy w2 none := (grownBy_of_below hb).trans hg
  have hr1 := hr.kept hg0 (by simp)
  have hF1 := hr1.cellF
  have hN1 := hr1.cellN
  have hP1 := hP.cell
  have hz := hr1.frozen f
  have hz8 := hr1.frozen 8
  have hz9 := hr1.frozen 9
  have hc := hr1.cellV hf
  have hBP : B < w1.heap.size := Nat.lt_of_lt_of_le hr.lt hb.size
  have hcall := place1_ring (B := B) (C := w1.heap.size) (f := f) (i := 1) (w2.setCell ⟨B, f, none⟩ (.int .i64 0)).drew (hr1.setV hf 0).drew hf (by omega) ((World.grownBy.cell (grownBy_setCell w2 ⟨B, f, none⟩ _) hP1 (by simp; omega)))
  clear hR hb hg
  go_wp2_with fail
  go_region
  go_wp2_with fail
  refine hcall.mono ?_
  rintro e w' ⟨rfl, rfl⟩
  go_wp2_with fail
  go_ret2
  refine ⟨rfl, Rng.mk' (n := t.length) (((hr1.setV hf 0).setF (slotOf f 1) rfl).setN t.length rfl).drew ?_ rfl (slotOf_lt f 1) (by omega) hm, ?_⟩
  · have h1 := HY.out
    rw [List.length_cons, heldBy_take hf (by omega) 0] at h1
    exact (List.cons.inj h1).2
  · exact grown_drew (grown_set (grown_set (grown_set (grownBy_but hg0 _) _ _) _ _) _ _)

theorem take_ring {B m : Nat} {ys : List Int} (w : World) (hR : Rng w B m ys) :
    Calls Try.prog 42 #[.pointer (some ⟨B, 0, none⟩)] w fun e w' => e = .returned (.tuple #[.int .i64 (ys.head?.getD 0), .int .i64 (takeE ys)]) ∧ Rng w' B m ys.tail ∧ w.grownBy w' (some B) := by
  cases ys with
  | nil =>
    simp only [List.head?_nil, Option.getD_none, List.tail_nil, show takeE [] = 3 from rfl]
    exact take_none w hR
  | cons x t =>
    simp only [List.head?_cons, Option.getD_some, List.tail_cons, show takeE (x :: t) = 0 from by simp [takeE]]
    exact take_some w hR

set_option maxHeartbeats 400000 in
theorem swap_nil (v : Int) (w : World) :
    Calls Try.prog 54 #[.pointer none, .int .i64 v] w fun e w' => e = .returned (.tuple #[.int .i64 0, .int .i64 1]) ∧ Below w.heap.size w w' := by
  go_enter Try.func54, Try.ntmps54
  go_wp2_with fail
  go_quiet (fail)
  go_wp2_with fail
  refine (take_nil _).mono ?_
  rintro e w1 ⟨rfl, rfl⟩
  go_wp2_with fail
  go_ret2
  exact ⟨rfl, (Below.refl _ _).grown (grownBy_drewN _ _ none) (Nat.le_refl _) (fun _ e => by cases e)⟩

set_option maxHeartbeats 400000 in
theorem swap_ring {B m : Nat} {ys : List Int} (v : Int) (w : World) (hR : Rng w B m ys) :
    Calls Try.prog 54 #[.pointer (some ⟨B, 0, none⟩), .int .i64 v] w fun e w' => e = .returned (.tuple #[.int .i64 (swapV m ys), .int .i64 (swapE m ys)]) ∧ Rng w' B m (swapL m ys v) ∧ w.grownBy w' (some B) := by
  obtain ⟨vs, f, hr, hys, hf, hnm, hm⟩ := id hR
  have hN := hr.cellN
  have hM := hr.cellM
  clear hr hys
  by_cases h : ys.length < m
  · have hd : decide ((ys.length : Int) < (m : Int)) = true := by simp; omega
    have hd' : (ys.length : Int) < (m : Int) := by omega
    rw [swapV, if_pos h, swapE, if_pos (.inl h), swapL, if_pos (.inl h)]
    go_enter Try.func54, Try.ntmps54
    go_wp2_with fail
    go_quiet (fail)
    go_wp2_with fail
    go_ret2
    exact ⟨rfl, hR.drewN _, grownBy_drewN _ _ _⟩
  · have hd : decide ((ys.length : Int) < (m : Int)) = false := by simp; omega
    have hd' : ¬ (ys.length : Int) < (m : Int) := by omega
    rw [swapV, if_neg h]
    match ys, hR with
    | [], hR =>
      rw [swapE, if_pos (.inr rfl), swapL, if_pos (.inr rfl)]
      simp only [List.head?_nil, Option.getD_none]
      go_enter Try.func54, Try.ntmps54
      go_wp2_with fail
      go_quiet (fail)
      go_wp2_with fail
      refine (take_none _ (hR.drewN _)).mono ?_
      rintro e w1 ⟨rfl, hR1, hg⟩
      go_wp2_with fail
      go_ret2
      exact ⟨rfl, hR1, (grownBy_drewN _ _ _).trans hg⟩
    | x :: t, hR =>
      rw [swapE, if_neg (by simp at h ⊢; omega), swapL, if_neg (by simp at h ⊢; omega)]
      simp only [List.head?_cons, Option.getD_some, List.tail_cons]
      have hd2 : decide ((t.length : Int) + 1 < (m : Int)) = false := by simp at h ⊢; omega
      have hd3 : ¬ (t.length : Int) + 1 < (m : Int) := by simp at h ⊢; omega
      go_enter Try.func54, Try.ntmps54
      go_wp2_with fail
      go_quiet (fail)
      go_wp2_with fail
      refine (take_some _ (hR.drewN _)).mono ?_
      rintro e w1 ⟨rfl, hR1, hg⟩
      go_wp2_with fail
      refine (put_room v _ hR1 ?_).mono ?_
      · simp at hnm; omega
      rintro e w2 ⟨rfl, hR2, hg2⟩
      go_wp2_with fail
      go_ret2
      exact ⟨rfl, hR2, ((grownBy_drewN _ _ _).trans hg).trans hg2⟩
end Go.Proofs.Ytkpnkhakjgfgfaa.Rg
