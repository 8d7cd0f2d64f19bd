/-
  The walks of sched.New, Make, Push, fewer, Back, Leave, End.
-/
import Derived.Test.YtfdinodcbeipcaaZMath
namespace Go.Proofs.Ytfdinodcbeipcaa
open Go.RowKit

theorem znew_bad (k : Int) (w : World) (h : k < 1 ∨ 32 < k) :
    Calls Try.prog 8 #[.int .i64 k] w fun e w' => e = .returned (.tuple #[.pointer none, .int .i64 2]) ∧ w' = w := by
  go_enter Try.func8, Try.ntmps8
  rcases h with h | h
  · go_wp2_with fail
    go_ret2
    exact ⟨rfl, rfl⟩
  · have h' : ¬ k < 1 := by omega
    go_wp2_with fail
    go_ret2
    exact ⟨rfl, rfl⟩

set_option maxHeartbeats 400000 in
theorem znew_ok (m : Nat) (w : World) (h0 : 1 ≤ m) (h : m ≤ 32) :
    Calls Try.prog 8 #[.int .i64 (m : Int)] w fun e w' => ∃ S F, e = .returned (.tuple #[ptrO S, .int .i64 0]) ∧ Scd w' S F (Ss.new m) ∧ But [] w w' ∧ w.heap.size ≤ S ∧ w.heap.size ≤ F := by
  have h' : ¬ (m : Int) < 1 := by omega
  have h'' : ¬ (32 : Int) < (m : Int) := by omega
  go_enter Try.func8, Try.ntmps8
  go_wp2_with fail
  refine (new_ok 32 _ (by omega) (by omega)).mono ?_
  rintro e w1 ⟨rfl, hF, hb⟩
  have HF := Lib.hid (And.intro hF hb)
  clear hF hb
  go_wp2_with fail
  go_ret2
  exact ⟨w1.heap.size, w.heap.size, rfl, ⟨World.alloc_heap_new w1 _, HF.out.1.fresh ((But.refl _ _).alloc _), h0, h, Nat.zero_le _, Nat.le_refl _, by simp [Ss.new], Nat.zero_le _⟩, HF.out.2.alloc _, HF.out.2.size, Nat.le_refl _⟩

/-! ### Make -/
theorem zmake_nil (w : World) :
    Calls Try.prog 9 #[.pointer none] w fun e w' => e = .returned (.tuple #[.int .i64 0, .int .i64 1]) ∧ w' = w := by
  go_enter Try.func9, Try.ntmps9
  go_wp2_with fail
  go_ret2
  exact ⟨rfl, rfl⟩
theorem zmake_full {S F : Nat} {s : Ss} (w : World) (H : Scd w S F s) (hm : s.made = s.m) :
    Calls Try.prog 9 #[ptrO S] w fun e w' => e = .returned (.tuple #[.int .i64 0, .int .i64 4]) ∧ ∃ n, w' = w.drewN n := by
  have c1 := H.c1
  have c2 := H.c2
  rw [hm] at c2
  clear H hm
  go_enter Try.func9, Try.ntmps9
  go_wp2_with fail
  go_quiet (fail)
  go_wp2_with fail
  go_ret2
  exact ⟨rfl, _, rfl⟩
theorem good_make {s : Ss} (h : s.Good) (hm : s.made ≠ s.m) : (Ss.mk (s.l ++ [(s.made : Int)]) s.m (s.made + 1) (s.live + 1) s.busy).Good :=
  ⟨h.one, h.most, by have := h.made; show s.made + 1 ≤ s.m; omega, by have := h.live; show s.live + 1 ≤ s.made + 1; omega, fun x hx => by
    show x < ((s.made + 1 : Nat) : Int)
    rcases List.mem_append.1 hx with hx | hx
    · have := h.rng x hx; omega
    · rw [List.mem_singleton.1 hx]; omega, h.busy⟩

set_option maxHeartbeats 1000000 in
theorem zmake_more {S F : Nat} {s : Ss} (w : World) (H : Scd w S F s) (hm : s.made ≠ s.m) :
    Calls Try.prog 9 #[ptrO S] w fun e w' => e = .returned (.tuple #[.int .i64 (s.made : Int), .int .i64 0]) ∧ Scd w' S F s.make ∧ But [S, F] w w' := by
  have hR := H.raw
  have c0 := hR.c0
  have c1 := hR.c1
  have c2 := hR.c2
  have hg := H.good
  have hma := hg.made
  have hmo := hg.most
  have hli := hg.live
  have ht : ((s.made : Int) == (s.m : Int)) = false := by simp; omega
  have hroom := room_any H.row.nd H.row.rng (k := (s.made : Int)) (by omega) (by omega) (fun hx => by have := hg.rng _ hx; omega)
  have hpush := fun n => push_any (s.made : Int) (w.drewN n) (hR.drewN n).row
  rw [hroom.1, hroom.2] at hpush
  have HM : Hid (s.make = ⟨s.l ++ [(s.made : Int)], s.m, s.made + 1, s.live + 1, s.busy⟩) := Lib.hid (by rw [Ss.make, if_neg hm])
  have HG := Lib.hid (good_make hg hm)
  have HR := Lib.hid hR
  clear hR hroom hg H hm
  go_enter Try.func9, Try.ntmps9
  go_wp2_with fail
  go_quiet (fail)
  go_wp2_with fail
  refine (hpush nq).mono ?_
  clear hpush c0 c1 c2
  rintro e w1 ⟨rfl, hF, hb⟩
  have hR1 := (HR.out.drewN nq).turn hF hb
  have d2 := hR1.c2
  have d3 := hR1.c3
  have f2 := hR1.frozen 2
  have f3 := hR1.frozen 3
  have HB := Lib.hid (And.intro hR1 ((turnF (S := S) (((But.refl [F] w).drewN nq).next hb))))
  clear hF hb hR1
  go_wp2_with fail
  go_ret2
  refine ⟨rfl, ?_, (HB.out.2.cellS _ _).cellS _ _⟩
  rw [HM.out]
  exact ((HB.out.1.set2 (n := s.made + 1) (by omega)).set3 (n := s.live + 1) (by omega)).scd HG.out
theorem zmake_any {S F : Nat} {s : Ss} (w : World) (H : Scd w S F s) :
    Calls Try.prog 9 #[ptrO S] w fun e w' => e = .returned (.tuple #[.int .i64 s.makeV, .int .i64 s.makeE]) ∧ Scd w' S F s.make ∧ But [S, F] w w' := by
  by_cases hm : s.made = s.m
  · rw [Ss.makeV, Ss.makeE, Ss.make, if_pos hm, if_pos hm, if_pos hm]
    refine (zmake_full w H hm).mono ?_
    rintro e w' ⟨rfl, n, rfl⟩
    exact ⟨rfl, H.drewN n, turn0 ((But.refl _ _).drewN n)⟩
  · rw [Ss.makeV, Ss.makeE, if_neg hm, if_neg hm]
    exact zmake_more w H hm

/-! ### Push -/
theorem zpush_nil (k : Int) (w : World) :
    Calls Try.prog 13 #[.pointer none, .int .i64 k] w fun e w' => e = .returned (.int .i64 1) ∧ w' = w := by
  go_enter Try.func13, Try.ntmps13
  go_wp2_with fail
  go_ret
  exact ⟨rfl, rfl⟩
theorem zpush_arg {S F : Nat} {s : Ss} (k : Int) (w : World) (H : Scd w S F s) (hk : k < 0 ∨ (s.made : Int) ≤ k) :
    Calls Try.prog 13 #[ptrO S, .int .i64 k] w fun e w' => e = .returned (.int .i64 2) ∧ w' = w := by
  have c2 := H.c2
  rcases Int.lt_or_le k 0 with h | h
  · have t1 : decide (k < 0) = true := by simpa using h
    go_enter Try.func13, Try.ntmps13
    go_wp2_with fail
    go_ret
    exact ⟨rfl, rfl⟩
  · have h2 : (s.made : Int) ≤ k := by omega
    have t1 : decide (k < 0) = false := by simp; omega
    have t2 : decide ((s.made : Int) ≤ k) = true := by simpa using h2
    have t3 : ¬ k < 0 := by omega
    go_enter Try.func13, Try.ntmps13
    go_wp2_with fail
    go_ret
    exact ⟨rfl, rfl⟩
set_option maxHeartbeats 400000 in
theorem zpush_in {S F : Nat} {s : Ss} (k : Int) (w : World) (H : Scd w S F s) (h0 : 0 ≤ k) (h1 : k < (s.made : Int)) :
    Calls Try.prog 13 #[ptrO S, .int .i64 k] w fun e w' => e = .returned (.int .i64 (pushE 32 s.l k)) ∧ Raw w' S F s.m s.made s.live s.busy (pushX 32 s.l k) ∧ But [S, F] w w' := by
  have c0 := H.c0
  have c2 := H.c2
  have t1 : decide (k < 0) = false := by simp; omega
  have t2 : decide ((s.made : Int) ≤ k) = false := by simp; omega
  have t3 : ¬ k < 0 := by omega
  have t4 : ¬ (s.made : Int) ≤ k := by omega
  have hpush := push_any k w H.row
  have HR := Lib.hid H.raw
  clear H
  go_enter Try.func13, Try.ntmps13
  go_wp2_with fail
  refine hpush.mono ?_
  rintro e w1 ⟨rfl, hF, hb⟩
  have HF := Lib.hid (And.intro hF hb)
  clear hpush hF hb
  go_wp2_with fail
  go_ret
  exact ⟨rfl, HR.out.turn HF.out.1 HF.out.2, turnF HF.out.2⟩
theorem good_push {s : Ss} (h : s.Good) {k : Int} (hk : k < (s.made : Int)) : (Ss.mk (s.l ++ [k]) s.m s.made s.live s.busy).Good :=
  ⟨h.one, h.most, h.made, h.live, fun x hx => by
    rcases List.mem_append.1 hx with hx | hx
    · exact h.rng x hx
    · rw [List.mem_singleton.1 hx]; exact hk, h.busy⟩
theorem zpush_any {S F : Nat} {s : Ss} (k : Int) (w : World) (H : Scd w S F s) :
    Calls Try.prog 13 #[ptrO S, .int .i64 k] w fun e w' => e = .returned (.int .i64 (s.pushE k)) ∧ Scd w' S F (s.push k) ∧ But [S, F] w w' := by
  unfold Ss.push
  by_cases h1 : k < 0 ∨ (s.made : Int) ≤ k
  · have e1 : s.pushE k = 2 := by rw [Ss.pushE, if_pos h1]
    rw [e1, if_neg (by decide)]
    refine (zpush_arg k w H h1).mono ?_
    rintro e w ⟨rfl, rfl⟩
    exact ⟨rfl, H, But.refl _ _⟩
  · have hp := zpush_in k w H (by omega) (by omega)
    by_cases h2 : k ∈ s.l
    · have e1 : s.pushE k = 9 := by rw [Ss.pushE, if_neg h1, if_pos h2]
      rw [e1, if_neg (by decide)]
      have h3 : ¬ (k < 0 ∨ 32 ≤ k) := by have := H.good.made; have := H.good.most; omega
      rw [pushE, pushX, if_neg h3, if_neg h3, if_pos h2, if_pos h2] at hp
      refine hp.mono ?_
      rintro e w' ⟨rfl, hR, hb⟩
      exact ⟨rfl, hR.scd H.good, hb⟩
    · have e1 : s.pushE k = 0 := by rw [Ss.pushE, if_neg h1, if_neg h2]
      rw [e1, if_pos rfl]
      have hr := room_any H.row.nd H.row.rng (k := k) (by omega) (by have := H.good.made; have := H.good.most; omega) h2
      rw [hr.1, hr.2] at hp
      refine hp.mono ?_
      rintro e w' ⟨rfl, hR, hb⟩
      exact ⟨rfl, hR.scd (good_push H.good (by omega)), hb⟩

/-! ### Fewer, Back, Leave, End -/
theorem few_nil (b : Bool) (w : World) :
    Calls Try.prog 35 #[.pointer none, .bool b] w fun e w' => e = .returned (.int .i64 1) ∧ w' = w := by
  go_enter Try.func35, Try.ntmps35
  go_wp2_with fail
  go_ret
  exact ⟨rfl, rfl⟩
theorem few_any {S F : Nat} {s : Ss} (b : Bool) (w : World) (H : Scd w S F s) :
    Calls Try.prog 35 #[ptrO S, .bool b] w fun e w' => e = .returned (.int .i64 (s.fewE b)) ∧ w' = w := by
  have c3 := H.c3
  have c4 := H.c4
  unfold Ss.fewE
  by_cases h0 : s.busy = 0
  · rw [h0] at c4
    rw [if_pos (.inl h0)]
    clear H
    go_enter Try.func35, Try.ntmps35
    go_wp2_with fail
    go_ret
    exact ⟨rfl, rfl⟩
  · have t0 : ((s.busy : Int) == 0) = false := by simp; omega
    cases b
    · rw [if_neg (by simp [h0])]
      clear H
      go_enter Try.func35, Try.ntmps35
      go_wp2_with fail
      go_ret
      exact ⟨rfl, rfl⟩
    · by_cases h1 : s.live = 0
      · rw [h1] at c3
        rw [if_pos (.inr ⟨rfl, h1⟩)]
        clear H
        go_enter Try.func35, Try.ntmps35
        go_wp2_with fail
        go_ret
        exact ⟨rfl, rfl⟩
      · have t1 : ((s.live : Int) == 0) = false := by simp; omega
        rw [if_neg (by simp [h0, h1])]
        clear H
        go_enter Try.func35, Try.ntmps35
        go_wp2_with fail
        go_ret
        exact ⟨rfl, rfl⟩

theorem zleave_nil (w : World) :
    Calls Try.prog 17 #[.pointer none] w fun e w' => e = .returned (.int .i64 1) ∧ w' = w := by
  go_enter Try.func17, Try.ntmps17
  go_wp2_with fail
  refine (few_nil false _).mono ?_
  rintro e w ⟨rfl, rfl⟩
  go_wp2_with fail
  go_ret
  exact ⟨rfl, rfl⟩
theorem good_busy {s : Ss} (h : s.Good) : (Ss.mk s.l s.m s.made s.live (s.busy - 1)).Good :=
  ⟨h.one, h.most, h.made, h.live, h.rng, by have := h.busy; show s.busy - 1 ≤ _; omega⟩
theorem zleave_any {S F : Nat} {s : Ss} (w : World) (H : Scd w S F s) :
    Calls Try.prog 17 #[ptrO S] w fun e w' => e = .returned (.int .i64 (s.fewE false)) ∧ Scd w' S F s.leave ∧ But [S, F] w w' := by
  have hf := few_any false w H
  have hbu := H.good.busy
  unfold Ss.leave
  by_cases h0 : s.busy = 0
  · rw [if_pos h0]
    have e0 : s.fewE false = 3 := by rw [Ss.fewE, if_pos (.inl h0)]
    rw [e0] at hf ⊢
    have HH := Lib.hid H
    clear H h0 e0
    go_enter Try.func17, Try.ntmps17
    go_wp2_with fail
    refine hf.mono ?_
    rintro e w ⟨rfl, rfl⟩
    go_wp2_with fail
    go_ret
    exact ⟨rfl, HH.out, But.refl _ _⟩
  · rw [if_neg h0]
    have e0 : s.fewE false = 0 := by rw [Ss.fewE, if_neg (by simp [h0])]
    rw [e0] at hf ⊢
    have c4 := H.c4
    have f4 := H.frozen 4
    have HR := Lib.hid H.raw
    have HG := Lib.hid (good_busy H.good)
    clear H e0
    go_enter Try.func17, Try.ntmps17
    go_wp2_with fail
    refine hf.mono ?_
    rintro e w ⟨rfl, rfl⟩
    go_wp2_with fail
    go_ret
    exact ⟨rfl, (HR.out.set4 (n := s.busy - 1) (by omega)).scd HG.out, (But.refl _ _).cellS _ _⟩

theorem zend_nil (w : World) :
    Calls Try.prog 19 #[.pointer none] w fun e w' => e = .returned (.int .i64 1) ∧ w' = w := by
  go_enter Try.func19, Try.ntmps19
  go_wp2_with fail
  refine (few_nil true _).mono ?_
  rintro e w ⟨rfl, rfl⟩
  go_wp2_with fail
  go_ret
  exact ⟨rfl, rfl⟩
theorem good_live {s : Ss} (h : s.Good) : (Ss.mk s.l s.m s.made (s.live - 1) (s.busy - 1)).Good :=
  ⟨h.one, h.most, h.made, by have := h.live; show s.live - 1 ≤ s.made; omega, h.rng, by have := h.busy; show s.busy - 1 ≤ _; omega⟩
theorem zend_any {S F : Nat} {s : Ss} (w : World) (H : Scd w S F s) :
    Calls Try.prog 19 #[ptrO S] w fun e w' => e = .returned (.int .i64 (s.fewE true)) ∧ Scd w' S F s.fin ∧ But [S, F] w w' := by
  have hf := few_any true w H
  have hbu := H.good.busy
  have hli := H.good.live
  have hma := H.good.made
  have hmo := H.good.most
  unfold Ss.fin
  by_cases h0 : s.busy = 0 ∨ s.live = 0
  · rw [if_pos h0]
    have e0 : s.fewE true = 3 := by rw [Ss.fewE, if_pos (h0.imp id fun h => ⟨rfl, h⟩)]
    rw [e0] at hf ⊢
    have HH := Lib.hid H
    clear H h0 e0
    go_enter Try.func19, Try.ntmps19
    go_wp2_with fail
    refine hf.mono ?_
    rintro e w ⟨rfl, rfl⟩
    go_wp2_with fail
    go_ret
    exact ⟨rfl, HH.out, But.refl _ _⟩
  · rw [if_neg h0]
    have e0 : s.fewE true = 0 := by rw [Ss.fewE, if_neg (by simpa using h0)]
    rw [e0] at hf ⊢
    have c3 := H.c3
    have c4 := H.c4
    have f4 := H.frozen 4
    have f3 := H.frozen 3
    have HR := Lib.hid H.raw
    have HG := Lib.hid (good_live H.good)
    have h1 : 1 ≤ s.busy ∧ 1 ≤ s.live := by omega
    clear H e0 h0
    go_enter Try.func19, Try.ntmps19
    go_wp2_with fail
    refine hf.mono ?_
    rintro e w ⟨rfl, rfl⟩
    go_wp2_with fail
    go_ret
    exact ⟨rfl, ((HR.out.set4 (n := s.busy - 1) (by omega)).set3 (n := s.live - 1) (by omega)).scd HG.out, ((But.refl _ _).cellS _ _).cellS _ _⟩

theorem zback_nil (k : Int) (w : World) :
    Calls Try.prog 15 #[.pointer none, .int .i64 k] w fun e w' => e = .returned (.int .i64 1) ∧ w' = w := by
  go_enter Try.func15, Try.ntmps15
  go_wp2_with fail
  refine (few_nil false _).mono ?_
  rintro e w ⟨rfl, rfl⟩
  go_wp2_with fail
  go_ret
  exact ⟨rfl, rfl⟩
theorem zback_any {S F : Nat} {s : Ss} (k : Int) (w : World) (H : Scd w S F s) :
    Calls Try.prog 15 #[ptrO S, .int .i64 k] w fun e w' => e = .returned (.int .i64 (s.backE k)) ∧ Scd w' S F (s.back k) ∧ But [S, F] w w' := by
  have hf := few_any false w H
  have hbu := H.good.busy
  unfold Ss.back Ss.backE
  by_cases h0 : s.busy = 0
  · rw [if_pos h0, if_neg (by decide)]
    have e0 : s.fewE false = 3 := by rw [Ss.fewE, if_pos (.inl h0)]
    rw [e0] at hf
    have HH := Lib.hid H
    clear H h0 e0
    go_enter Try.func15, Try.ntmps15
    go_wp2_with fail
    refine hf.mono ?_
    rintro e w ⟨rfl, rfl⟩
    go_wp2_with fail
    go_ret
    exact ⟨rfl, HH.out, But.refl _ _⟩
  · rw [if_neg h0]
    have e0 : s.fewE false = 0 := by rw [Ss.fewE, if_neg (by simp [h0])]
    rw [e0] at hf
    have hp := zpush_any k w H
    unfold Ss.push at hp
    have HG := Lib.hid H.good
    clear H e0
    by_cases h1 : s.pushE k = 0
    · rw [if_pos h1] at hp ⊢
      have HK := Lib.hid (s.push_zero h1)
      rw [h1] at hp ⊢
      clear h1
      go_enter Try.func15, Try.ntmps15
      go_wp2_with fail
      refine hf.mono ?_
      rintro e w ⟨rfl, rfl⟩
      go_wp2_with fail
      refine hp.mono ?_
      rintro e w1 ⟨rfl, H1, hb⟩
      have c4 := H1.c4
      have f4 := H1.frozen 4
      have HR := Lib.hid (And.intro H1.raw hb)
      clear H1 hb hp hf
      go_wp2_with fail
      go_ret
      exact ⟨rfl, (HR.out.1.set4 (n := s.busy - 1) (by omega)).scd (good_busy (s := ⟨s.l ++ [k], s.m, s.made, s.live, s.busy⟩) (good_push HG.out HK.out.2.1)), HR.out.2.cellS _ _⟩
    · rw [if_neg h1] at hp ⊢
      have ht : (s.pushE k == 0) = false := by simpa using h1
      generalize s.pushE k = x at hp ht ⊢
      clear h1
      go_enter Try.func15, Try.ntmps15
      go_wp2_with fail
      refine hf.mono ?_
      rintro e w ⟨rfl, rfl⟩
      go_wp2_with fail
      refine hp.mono ?_
      rintro e w1 ⟨rfl, H1, hb⟩
      have HR := Lib.hid (And.intro H1 hb)
      clear H1 hb hp hf
      go_wp2_with fail
      go_ret
      exact ⟨rfl, HR.out.1, HR.out.2⟩
end Go.Proofs.Ytfdinodcbeipcaa
