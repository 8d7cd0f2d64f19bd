/-
  The walks of fifo.Push and Pop.
-/
import Derived.Deep.RegionHeld3
import Derived.Test.YtfdinodcbeipcaaFAt
namespace Go.Proofs.Ytfdinodcbeipcaa
open Go.RowKit

theorem fresh_set {W : World} {B : Nat} (k : Nat) (v : Value) : But [B] W (W.setCell ⟨B, k, none⟩ v) := (But.refl [B] W).set (p := ⟨B, k, none⟩) (by simp) v

theorem push_nil (k : Int) (w : World) :
    Calls Try.prog 29 #[.pointer none, .int .i64 k] w fun e w' => e = .returned (.int .i64 1) ∧ w' = w := by
  go_enter Try.func29, Try.ntmps29
  go_wp2_with fail
  go_ret
  exact ⟨rfl, rfl⟩
theorem push_arg {B : Nat} (k : Int) (h : k < 0 ∨ 32 ≤ k) (w : World) :
    Calls Try.prog 29 #[.pointer (some ⟨B, 0, none⟩), .int .i64 k] w fun e w' => e = .returned (.int .i64 2) ∧ w' = w := by
  rcases h with h | h
  · have t1 : decide (k < 0) = true := by simpa using h
    go_enter Try.func29, Try.ntmps29
    go_wp2_with fail
    go_ret
    exact ⟨rfl, rfl⟩
  · have t1 : decide (k < 0) = false := by simp; omega
    have t2 : decide (32 ≤ k) = true := by simpa using h
    have t3 : ¬ k < 0 := by omega
    go_enter Try.func29, Try.ntmps29
    go_wp2_with fail
    go_ret
    exact ⟨rfl, rfl⟩
theorem push_have {B m : Nat} {ys : List Int} (k : Int) (w : World) (h : Fif w B m ys) (h1 : 0 ≤ k) (h2 : k < 32) (hm : k ∈ ys) :
    Calls Try.prog 29 #[.pointer (some ⟨B, 0, none⟩), .int .i64 k] w fun e w' => e = .returned (.int .i64 9) ∧ Below w.heap.size w w' := by
  have t1 : decide (k < 0) = false := by simp; omega
  have t2 : decide (32 ≤ k) = false := by simp; omega
  have t3 : ¬ k < 0 := by omega
  have t4 : ¬ 32 ≤ k := by omega
  have hh := has_any k w h
  simp only [hm, decide_true] at hh
  go_enter Try.func29, Try.ntmps29
  go_wp2_with fail
  refine hh.mono ?_
  rintro e w' ⟨rfl, hb⟩
  go_wp2_with fail
  go_ret
  exact ⟨rfl, hb⟩
set_option maxHeartbeats 400000 in
theorem push_full {B m : Nat} {ys : List Int} (k : Int) (w : World) (h : Fif w B m ys) (h1 : 0 ≤ k) (h2 : k < 32) (hm : k ∉ ys) (hf : ys.length = m) :
    Calls Try.prog 29 #[.pointer (some ⟨B, 0, none⟩), .int .i64 k] w fun e w' => e = .returned (.int .i64 4) ∧ Below w.heap.size w w' := by
  have t1 : decide (k < 0) = false := by simp; omega
  have t2 : decide (32 ≤ k) = false := by simp; omega
  have t3 : ¬ k < 0 := by omega
  have t4 : ¬ 32 ≤ k := by omega
  have ht : ((ys.length : Int) == (m : Int)) = true := by simp; omega
  have hh := has_any k w h
  simp only [hm, decide_false] at hh
  go_enter Try.func29, Try.ntmps29
  go_wp2_with fail
  refine hh.mono ?_
  rintro e w1 ⟨rfl, hb⟩
  obtain ⟨vs, f, hr, -⟩ := (h.below hb).raw
  have hN := hr.cellN
  have hM := hr.cellM
  clear hr hh
  go_wp2_with fail
  go_quiet (fail)
  go_wp2_with fail
  go_ret
  exact ⟨rfl, below_drewN hb _⟩
set_option maxHeartbeats 800000 in
theorem push_room {B m : Nat} {ys : List Int} (k : Int) (w : World) (h : Fif w B m ys) (h1 : 0 ≤ k) (h2 : k < 32) (hm : k ∉ ys) (hf : ys.length ≠ m) :
    Calls Try.prog 29 #[.pointer (some ⟨B, 0, none⟩), .int .i64 k] w fun e w' => e = .returned (.int .i64 0) ∧ Fif w' B m (ys ++ [k]) ∧ But [B] w w' := by
  have t1 : decide (k < 0) = false := by simp; omega
  have t2 : decide (32 ≤ k) = false := by simp; omega
  have t3 : ¬ k < 0 := by omega
  have t4 : ¬ 32 ≤ k := by omega
  have ht : ((ys.length : Int) == (m : Int)) = false := by simp; omega
  have hh := has_any k w h
  simp only [hm, decide_false] at hh
  have hle := h.le
  have hmo := h.most
  have HD := Lib.hid h.nd
  have HR := Lib.hid h.rng
  go_enter Try.func29, Try.ntmps29
  go_wp2_with fail
  refine hh.mono ?_
  rintro e w1 ⟨rfl, hb⟩
  have hB : B < w.heap.size := h.lt
  obtain ⟨vs, f, hr, hys, hf⟩ := (h.below hb).raw
  have HY := Lib.hid hys
  have hN := hr.cellN
  have hM := hr.cellM
  have hs := slotOf_lt f ys.length
  have hs1 : (0 : Int) ≤ (slotOf f ys.length : Int) := by omega
  have hs2 : (slotOf f ys.length : Int) < 32 := by omega
  clear hys h hh
  go_wp2_with fail
  go_quiet (fail)
  go_wp2_with fail
  have hrd : RawAt (w1.drewN nq) B vs f ys.length m := hr
  have hbd : Below w.heap.size w (w1.drewN nq) := below_drewN hb _
  clear hr hb hN hM
  generalize w1.drewN nq = w2 at hrd hbd ⊢
  have hN1 := hrd.cellN
  have hz := hrd.frozen (slotOf f ys.length)
  have hc := hrd.cellV hs
  have hz9 := hrd.frozen 33
  have hcall := place_raw (i := ys.length) w2.drew hrd.drew hf (by omega)
  refine wp_region_still_tail 11 (by kernel_rfl) (by kernel_rfl) ?_
  simp only [List.take_succ_cons, List.take_zero, List.drop_succ_cons, List.drop_zero]
  change wpStill _ _ w2.drew (fun a' => wpList _ _ _ _ a' w2.drew) _ _
  repeat still_step
  still_call hcall
  repeat still_step
  refine wpStill_nil ?_
  go_wp2_with fail
  go_ret
  refine ⟨rfl, Fif.mk' (n := ys.length + 1) ((hrd.setV hs k).setN (ys.length + 1) (by omega)).drew ?_ (by simp) hf (by omega) hmo ?_ ?_, ?_⟩
  · rw [heldBy_put hrd.1 (by omega), ← HY.out]
  · rw [List.nodup_append]; exact ⟨HD.out, by simp, fun a ha b hb e => by simp at hb; subst hb; subst e; exact hm ha⟩
  · intro x hx
    rcases List.mem_append.1 hx with hx | hx
    · exact HR.out x hx
    · rw [List.mem_singleton.1 hx]; exact ⟨by omega, by omega⟩
  · exact ((((But.of_below hbd [B]).next (fresh_set _ _)).next (fresh_set _ _))).drew

theorem push_any {B m : Nat} {ys : List Int} (k : Int) (w : World) (h : Fif w B m ys) :
    Calls Try.prog 29 #[.pointer (some ⟨B, 0, none⟩), .int .i64 k] w fun e w' => e = .returned (.int .i64 (pushE m ys k)) ∧ Fif w' B m (pushX m ys k) ∧ But [B] w w' := by
  unfold pushE pushX
  by_cases h1 : k < 0 ∨ 32 ≤ k
  · rw [if_pos h1, if_pos h1]
    refine (push_arg k h1 w).mono ?_
    rintro e w ⟨rfl, rfl⟩
    exact ⟨rfl, h, But.refl _ _⟩
  · rw [if_neg h1, if_neg h1]
    by_cases h2 : k ∈ ys
    · rw [if_pos h2, if_pos h2]
      refine (push_have k w h (by omega) (by omega) h2).mono ?_
      rintro e w' ⟨rfl, hb⟩
      exact ⟨rfl, h.below hb, But.of_below hb _⟩
    · rw [if_neg h2, if_neg h2]
      by_cases h3 : ys.length = m
      · rw [if_pos h3, if_pos h3]
        refine (push_full k w h (by omega) (by omega) h2 h3).mono ?_
        rintro e w' ⟨rfl, hb⟩
        exact ⟨rfl, h.below hb, But.of_below hb _⟩
      · rw [if_neg h3, if_neg h3]
        exact push_room k w h (by omega) (by omega) h2 h3

theorem pop_nil (w : World) :
    Calls Try.prog 33 #[.pointer none] w fun e w' => e = .returned (.tuple #[.int .i64 0, .int .i64 1]) ∧ Below w.heap.size w w' := by
  go_enter Try.func33, Try.ntmps33
  go_wp2_with fail
  refine (front_nil _).mono ?_
  rintro e w' ⟨rfl, hb⟩
  go_wp2_with fail
  go_ret2
  exact ⟨rfl, hb⟩
theorem pop_none {B m : Nat} (w : World) (h : Fif w B m []) :
    Calls Try.prog 33 #[.pointer (some ⟨B, 0, none⟩)] w fun e w' => e = .returned (.tuple #[.int .i64 0, .int .i64 3]) ∧ Below w.heap.size w w' := by
  go_enter Try.func33, Try.ntmps33
  go_wp2_with fail
  refine (front_any _ h).mono ?_
  rintro e w' ⟨rfl, hb⟩
  simp only [List.head?_nil, Option.getD_none, Option.isSome_none]
  go_wp2_with fail
  go_ret2
  exact ⟨rfl, hb⟩
set_option maxHeartbeats 800000 in
theorem pop_some {B m : Nat} {x : Int} {t : List Int} (w : World) (h : Fif w B m (x :: t)) :
    Calls Try.prog 33 #[.pointer (some ⟨B, 0, none⟩)] w fun e w' => e = .returned (.tuple #[.int .i64 x, .int .i64 0]) ∧ Fif w' B m t ∧ But [B] w w' := by
  have hle := h.le
  have hmo := h.most
  have HD := Lib.hid h.nd
  have HR := Lib.hid h.rng
  have hBl : B < w.heap.size := h.lt
  rw [List.length_cons] at hle
  go_enter Try.func33, Try.ntmps33
  go_wp2_with fail
  refine (front_any _ h).mono ?_
  rintro e w1 ⟨rfl, hb⟩
  simp only [List.head?_cons, Option.getD_some, Option.isSome_some]
  obtain ⟨vs, f, hr1, hys, hf⟩ := (h.below hb).raw
  have HY := Lib.hid hys
  rw [List.length_cons] at hr1
  have hf1 : (0 : Int) ≤ (f : Int) := by omega
  have hf2 : (f : Int) < 32 := by omega
  have hF1 := hr1.cellF
  have hN1 := hr1.cellN
  have hz := hr1.frozen f
  have hz8 := hr1.frozen 32
  have hz9 := hr1.frozen 33
  have hc := hr1.cellV hf
  have hcall := place_raw (i := 1) (w1.setCell ⟨B, f, none⟩ (.int .i64 0)).drew (hr1.setV hf 0).drew hf (by omega)
  clear hys h
  go_wp2_with fail
  go_region
  go_wp2_with fail
  refine hcall.mono ?_
  rintro e w' ⟨rfl, rfl⟩
  go_wp2_with fail
  go_ret2
  refine ⟨rfl, Fif.mk' (n := t.length) (((hr1.setV hf 0).setF (slotOf f 1) rfl).setN t.length rfl).drew ?_ rfl (slotOf_lt f 1) (by omega) hmo (List.nodup_cons.1 HD.out).2 (fun y hy => HR.out y (List.mem_cons_of_mem _ hy)), ?_⟩
  · have h1 := HY.out
    rw [List.length_cons, heldBy_take hf (by omega) 0] at h1
    exact (List.cons.inj h1).2
  · exact ((((But.of_below hb [B]).next (fresh_set _ _)).next (fresh_set _ _)).next (fresh_set _ _)).drew

theorem pop_any {B m : Nat} {ys : List Int} (w : World) (h : Fif w B m ys) :
    Calls Try.prog 33 #[.pointer (some ⟨B, 0, none⟩)] w fun e w' => e = .returned (.tuple #[.int .i64 (ys.head?.getD 0), .int .i64 (popE ys)]) ∧ Fif w' B m ys.tail ∧ But [B] w w' := by
  cases ys with
  | nil =>
    simp only [List.head?_nil, Option.getD_none, List.tail_nil, show popE [] = 3 from rfl]
    exact (pop_none w h).mono fun _ _ ⟨h1, hb⟩ => ⟨h1, h.below hb, But.of_below hb _⟩
  | cons x t =>
    simp only [List.head?_cons, Option.getD_some, List.tail_cons, show popE (x :: t) = 0 from by simp [popE]]
    exact pop_some w h
end Go.Proofs.Ytfdinodcbeipcaa
