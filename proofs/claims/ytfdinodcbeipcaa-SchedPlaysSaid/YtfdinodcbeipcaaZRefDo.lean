/-
  The walks of tollbarref23's Make, Next, Push, Back, Leave, End.
-/
import Derived.Test.YtfdinodcbeipcaaZRef
namespace Go.Proofs.Ytfdinodcbeipcaa
open Go.RowKit

/-! ### Make -/
set_option maxHeartbeats 1000000 in
theorem rmake_any {R : Nat} {s : Ss} (w : World) (H : RefS w R s) (hg : s.Good) (hl : s.l.length ≤ 32) :
    Calls Try.prog 10 #[ptrO R] w fun e w' => e = .returned (.tuple #[.int .i64 s.makeV, .int .i64 s.makeE]) ∧ RefS w' R s.make ∧ But [R] w w' := by
  obtain ⟨c0, c2, c3, c4⟩ := H.cells
  have hma := hg.made
  have hmo := hg.most
  have hli := hg.live
  unfold Ss.makeV Ss.makeE Ss.make
  by_cases hm : s.made = s.m
  · rw [if_pos hm, if_pos hm, if_pos hm]
    rw [hm] at c2
    have HH := Lib.hid H
    clear H hm
    go_enter Try.func10, Try.ntmps10
    go_wp2_with fail
    go_quiet (fail)
    go_wp2_with fail
    go_ret2
    exact ⟨rfl, HH.out.drewN _, (But.refl _ _).drewN _⟩
  · rw [if_neg hm, if_neg hm, if_neg hm]
    have t1 : decide ((s.m : Int) ≤ (s.made : Int)) = false := by simp; omega
    have t2 : ¬ (s.m : Int) ≤ (s.made : Int) := by omega
    have f2 := H.frozen 2
    have f3 := H.frozen 3
    have HH := Lib.hid H
    clear H hm
    go_enter Try.func10, Try.ntmps10
    go_wp2_with fail
    go_quiet (fail)
    have HN : Hid (RRaw (((w.drewN nq).setCell ⟨R, 2, none⟩ (.int .i64 ((s.made : Int) + 1))).setCell ⟨R, 3, none⟩ (.int .i64 ((s.live : Int) + 1))) R s.m (s.made + 1) (s.live + 1) s.busy s.l) := Lib.hid (((HH.out.drewN nq).set2 (n := s.made + 1) (by omega)).set3 (n := s.live + 1) (by omega))
    have hB : But [R] w (((w.drewN nq).setCell ⟨R, 2, none⟩ (.int .i64 ((s.made : Int) + 1))).setCell ⟨R, 3, none⟩ (.int .i64 ((s.live : Int) + 1))) := butR (butR ((But.refl _ _).drewN _))
    have hput := rput_any (s.made : Int) _ HN.out (by omega)
    have HB := Lib.hid hB
    clear hB
    go_wp2_with fail
    refine hput.mono ?_
    rintro e w1 ⟨rfl, h1, h2⟩
    have HP := Lib.hid (And.intro h1 (HB.out.next h2))
    clear h1 h2 hput
    go_wp2_with fail
    go_ret2
    exact ⟨rfl, HP.out.1, HP.out.2⟩

/-! ### Next -/
set_option maxHeartbeats 1000000 in
theorem rnext_raw {R g cap busy : Nat} {x : Int} {t : List Int} (w : World) (hx : w.cell? ⟨g, 0, none⟩ = some (.int .i64 x))
    (c0 : w.cell? ⟨R, 1, none⟩ = some (.slice (some ⟨g, 0, none⟩) (t.length + 1) cap)) (f0 : w.frozen? ⟨R, 1, none⟩ = false) (hR : R < w.heap.size)
    (c4 : w.cell? ⟨R, 4, none⟩ = some (.int .i64 (busy : Int))) (f4 : w.frozen? ⟨R, 4, none⟩ = false) (hb : busy < 1000000000)
    (ht : ∀ j u, (I64 t)[j]? = some u → w.cell? ((⟨g, 1, none⟩ : Addr).add j) = some u) (hm : t.length + 1 ≤ 1024) (hcap : t.length + 1 ≤ cap) :
    Calls Try.prog 12 #[.pointer (some ⟨R, 0, none⟩)] w fun e w' => e = .returned (.tuple #[.int .i64 x, .int .u8 1]) ∧ ∃ w1 sv', w' = (w1.setCell ⟨R, 1, none⟩ sv').setCell ⟨R, 4, none⟩ (.int .i64 ((busy : Int) + 1)) ∧ w1.ownsRow 0 3 1 sv' t.length (I64 t) ∧ But [] w w1 := by
  obtain ⟨i0, hi, hz0, hz1, hz2⟩ := info_parts infoInt
  have k1 : (0 : Int) < (t.length : Int) + 1 := by omega
  have k11 : decide ((0 : Int) < (t.length : Int) + 1) = true := decide_eq_true k1
  have k2 : (1 : Int) ≤ (t.length : Int) + 1 := by omega
  have k3 : (t.length : Int) + 1 ≤ (cap : Int) := by omega
  have HT := Lib.hid ht
  clear ht
  by_cases hc : cap = 1
  · obtain rfl : t = [] := List.length_eq_zero_iff.mp (by omega)
    subst hc
    go_enter Try.func12, Try.ntmps12
    go_wp2_with fail
    go_ret2
    exact ⟨rfl, w, .slice none 0 0, rfl, World.ownsRow_nil _ _ _ _, But.refl _ _⟩
  · have hc2 : ¬ (cap : Int) = 1 := by omega
    go_enter Try.func12, Try.ntmps12
    go_wp2_with (at_builtin; refine wpList_append_own _ rfl _ _ 29 rfl w.heap.size 3 i0 (.int .i64 0) 1 8 Try.underlying29 hi hz0 hz1 hz2 rfl (by decide) _ 0 [] rfl (World.ownsRow_nil _ _ _ _) ⟨g, 1, none⟩ t.length _ (I64 t) rfl (by rw [I64_len]; omega) HT.out I64_one (by unfold maxLen; omega) (by omega) (Nat.le_refl _) ?_)
    intro v1 w1 hown hgrow _
    obtain ⟨va, vn, vc, rfl⟩ := owns_slice hown
    have hB : But [] w w1 := But.of_none hgrow []
    have c2 := hB.cell c0 (by simp)
    have f2 := hB.frozen f0 hR (by simp)
    have d4 := hB.cell c4 (by simp)
    have e4 := hB.frozen f4 hR (by simp)
    have HO := Lib.hid hown
    clear hown hgrow
    go_wp2_with fail
    go_ret2
    exact ⟨rfl, w1, _, rfl, own_turn HO.out (by simp) (by simp), hB⟩
theorem rnext_none {R : Nat} {s : Ss} (w : World) (H : RefS w R s) (hl : s.l = []) :
    Calls Try.prog 12 #[ptrO R] w fun e w' => e = .returned (.tuple #[.int .i64 0, .int .u8 s.what]) ∧ w' = w := by
  obtain ⟨c0, c2, c3, c4⟩ := H.cells
  obtain ⟨sv, h3, h4⟩ := H.rowAt
  obtain ⟨p, c, rfl⟩ := (RowI.of_owns (ownsRow_low h4)).slice
  rw [hl, List.length_nil] at h3
  rw [Ss.what, if_neg (by simp [hl])]
  clear H h4
  by_cases h0 : 0 < s.busy
  · have t2 : decide ((0 : Int) < (s.busy : Int)) = true := by simp; omega
    have t3 : (0 : Int) < (s.busy : Int) := by omega
    rw [if_pos h0]
    go_enter Try.func12, Try.ntmps12
    go_wp2_with fail
    go_ret2
    exact ⟨rfl, rfl⟩
  · rw [if_neg h0]
    have h0' : s.busy = 0 := by omega
    rw [h0'] at c4
    by_cases h1 : 0 < s.live
    · have t2 : ((s.live : Int) == 0) = false := by simp; omega
      have t3 : ¬ (s.live : Int) = 0 := by omega
      rw [if_pos h1]
      go_enter Try.func12, Try.ntmps12
      go_wp2_with fail
      go_ret2
      exact ⟨rfl, rfl⟩
    · rw [if_neg h1]
      have h1' : s.live = 0 := by omega
      rw [h1'] at c3
      go_enter Try.func12, Try.ntmps12
      go_wp2_with fail
      go_ret2
      exact ⟨rfl, rfl⟩
theorem rnext_any {R : Nat} {s : Ss} (w : World) (H : RefS w R s) (hl : s.l.length ≤ 32) (hb : s.busy < 1000000000) :
    Calls Try.prog 12 #[ptrO R] w fun e w' => e = .returned (.tuple #[.int .i64 s.first, .int .u8 s.what]) ∧ RefS w' R s.next ∧ But [R] w w' := by
  by_cases hn : s.l = []
  · rw [Ss.next, if_pos hn, show s.first = 0 by rw [Ss.first, hn]; rfl]
    refine (rnext_none w H hn).mono ?_
    rintro e w ⟨rfl, rfl⟩
    exact ⟨rfl, H, But.refl _ _⟩
  · rw [Ss.next, if_neg hn, Ss.what_task hn]
    obtain ⟨sv, c1, h4⟩ := H.rowAt
    obtain ⟨-, -, -, c4⟩ := H.cells
    have f1 := H.frozen 1
    have f4 := H.frozen 4
    obtain ⟨x, t, hxt⟩ : ∃ x t, s.l = x :: t := by
      cases h : s.l with
      | nil => exact absurd h hn
      | cons x t => exact ⟨x, t, rfl⟩
    rw [show s.first = x by rw [Ss.first, hxt]; rfl]
    rw [hxt] at h4 hl
    rcases id h4.2 with ⟨_, h0⟩ | ⟨g, cap, cur, rfl, _, _, hcap, _⟩
    · simp at h0
    rw [List.length_cons] at c1 hl hcap h4
    have hcell := h4.cells (g := g) rfl
    have hx : w.cell? ⟨g, 0, none⟩ = some (.int .i64 x) := by
      have := hcell 0 (.int .i64 x) (by simp [I64])
      simpa [Addr.add] using this
    have ht : ∀ j u, (I64 t)[j]? = some u → w.cell? ((⟨g, 1, none⟩ : Addr).add j) = some u := fun j u hj => by
      have := hcell (j + 1) u (by simpa [I64] using hj)
      rw [add_off] at this ⊢
      rw [show 1 + j = 0 + (j + 1) by omega]; exact this
    refine (rnext_raw w hx c1 f1 H.lt c4 f4 hb ht (by omega) hcap).mono ?_
    rintro e w' ⟨rfl, w1, sv', rfl, h6, h7⟩
    obtain ⟨h8, h9⟩ := H.of_set (xs := t) rfl h6 h7
    refine ⟨rfl, ?_, butR h9⟩
    show RRaw _ R s.m s.made s.live (s.busy + 1) s.l.tail
    rw [hxt]
    exact h8.set4 (n := s.busy + 1) (by omega)

/-! ### Push -/
theorem rpush_arg {R : Nat} {s : Ss} (k : Int) (w : World) (H : RefS w R s) (hk : k < 0 ∨ (s.made : Int) ≤ k) :
    Calls Try.prog 14 #[ptrO R, .int .i64 k] w fun e w' => e = .returned (.int .i64 2) ∧ w' = w := by
  obtain ⟨-, c2, -, -⟩ := H.cells
  rcases Int.lt_or_le k 0 with h | h
  · have t1 : decide (k < 0) = true := by simpa using h
    go_enter Try.func14, Try.ntmps14
    go_wp2_with fail
    go_ret
    exact ⟨rfl, rfl⟩
  · have h2 : (s.made : Int) ≤ k := by omega
    have t1 : decide (k < 0) = false := by simp; omega
    have t2 : decide ((s.made : Int) ≤ k) = true := by simpa using h2
    have t3 : ¬ k < 0 := by omega
    go_enter Try.func14, Try.ntmps14
    go_wp2_with fail
    go_ret
    exact ⟨rfl, rfl⟩
set_option maxHeartbeats 400000 in
theorem rpush_any {R : Nat} {s : Ss} (k : Int) (w : World) (H : RefS w R s) (hl : s.l.length ≤ 32) :
    Calls Try.prog 14 #[ptrO R, .int .i64 k] w fun e w' => e = .returned (.int .i64 (s.pushE k)) ∧ RefS w' R (s.push k) ∧ But [R] w w' := by
  unfold Ss.push
  by_cases h1 : k < 0 ∨ (s.made : Int) ≤ k
  · have e1 : s.pushE k = 2 := by rw [Ss.pushE, if_pos h1]
    rw [e1, if_neg (by decide)]
    refine (rpush_arg k w H h1).mono ?_
    rintro e w ⟨rfl, rfl⟩
    exact ⟨rfl, H, But.refl _ _⟩
  · obtain ⟨-, c2, -, -⟩ := H.cells
    have t1 : decide (k < 0) = false := by simp; omega
    have t2 : decide ((s.made : Int) ≤ k) = false := by simp; omega
    have t3 : ¬ k < 0 := by omega
    have t4 : ¬ (s.made : Int) ≤ k := by omega
    have hh := rhas_any k w H (by omega)
    by_cases h2 : k ∈ s.l
    · have e1 : s.pushE k = 9 := by rw [Ss.pushE, if_neg h1, if_pos h2]
      rw [e1, if_neg (by decide)]
      simp only [h2, decide_true] at hh
      have HH := Lib.hid H
      clear H h2 e1
      go_enter Try.func14, Try.ntmps14
      go_wp2_with fail
      refine hh.mono ?_
      rintro e w ⟨rfl, rfl⟩
      go_wp2_with fail
      go_ret
      exact ⟨rfl, HH.out, But.refl _ _⟩
    · have e1 : s.pushE k = 0 := by rw [Ss.pushE, if_neg h1, if_neg h2]
      rw [e1, if_pos rfl]
      simp only [h2, decide_false] at hh
      have hp := rput_any k w H (by omega)
      clear H h2 e1
      go_enter Try.func14, Try.ntmps14
      go_wp2_with fail
      refine hh.mono ?_
      rintro e w ⟨rfl, rfl⟩
      go_wp2_with fail
      refine hp.mono ?_
      rintro e w1 ⟨rfl, h5, h6⟩
      have HP := Lib.hid (And.intro h5 h6)
      clear h5 h6 hp hh
      go_wp2_with fail
      go_ret
      exact ⟨rfl, HP.out.1, HP.out.2⟩

/-! ### Back, Leave, End -/
set_option maxHeartbeats 400000 in
theorem rback_any {R : Nat} {s : Ss} (k : Int) (w : World) (H : RefS w R s) (hl : s.l.length ≤ 32) (hbu : s.busy ≤ 1000000000) :
    Calls Try.prog 16 #[ptrO R, .int .i64 k] w fun e w' => e = .returned (.int .i64 (s.backE k)) ∧ RefS w' R (s.back k) ∧ But [R] w w' := by
  obtain ⟨-, -, -, c4⟩ := H.cells
  unfold Ss.back Ss.backE
  by_cases h0 : s.busy = 0
  · rw [if_pos h0, if_neg (by decide)]
    rw [h0] at c4
    have HH := Lib.hid H
    clear H h0
    go_enter Try.func16, Try.ntmps16
    go_wp2_with fail
    go_ret
    exact ⟨rfl, HH.out, But.refl _ _⟩
  · rw [if_neg h0]
    have t0 : ((s.busy : Int) == 0) = false := by simp; omega
    have hp := rpush_any k w H hl
    unfold Ss.push at hp
    clear H
    by_cases h1 : s.pushE k = 0
    · rw [if_pos h1] at hp ⊢
      rw [h1] at hp ⊢
      clear h1
      go_enter Try.func16, Try.ntmps16
      go_wp2_with fail
      refine hp.mono ?_
      rintro e w1 ⟨rfl, H1, hb⟩
      obtain ⟨-, -, -, d4⟩ := H1.cells
      have f4 := H1.frozen 4
      have HR := Lib.hid (And.intro H1 hb)
      clear H1 hb hp
      go_wp2_with fail
      go_ret
      exact ⟨rfl, RRaw.set4 HR.out.1 (n := s.busy - 1) (by omega), butR HR.out.2⟩
    · rw [if_neg h1] at hp ⊢
      have ht : (s.pushE k == 0) = false := by simpa using h1
      generalize s.pushE k = x at hp ht ⊢
      clear h1
      go_enter Try.func16, Try.ntmps16
      go_wp2_with fail
      refine hp.mono ?_
      rintro e w1 ⟨rfl, H1, hb⟩
      have HR := Lib.hid (And.intro H1 hb)
      clear H1 hb hp
      go_wp2_with fail
      go_ret
      exact ⟨rfl, HR.out.1, HR.out.2⟩
theorem rleave_any {R : Nat} {s : Ss} (w : World) (H : RefS w R s) (hbu : s.busy ≤ 1000000000) :
    Calls Try.prog 18 #[ptrO R] w fun e w' => e = .returned (.int .i64 (s.fewE false)) ∧ RefS w' R s.leave ∧ But [R] w w' := by
  obtain ⟨-, -, -, c4⟩ := H.cells
  unfold Ss.leave
  by_cases h0 : s.busy = 0
  · rw [if_pos h0]
    have e0 : s.fewE false = 3 := by rw [Ss.fewE, if_pos (.inl h0)]
    rw [e0]
    rw [h0] at c4
    have HH := Lib.hid H
    clear H h0 e0
    go_enter Try.func18, Try.ntmps18
    go_wp2_with fail
    go_ret
    exact ⟨rfl, HH.out, But.refl _ _⟩
  · rw [if_neg h0]
    have e0 : s.fewE false = 0 := by rw [Ss.fewE, if_neg (by simp [h0])]
    rw [e0]
    have t0 : ((s.busy : Int) == 0) = false := by simp; omega
    have f4 := H.frozen 4
    have HR := Lib.hid H
    clear H e0
    go_enter Try.func18, Try.ntmps18
    go_wp2_with fail
    go_ret
    exact ⟨rfl, RRaw.set4 HR.out (n := s.busy - 1) (by omega), butR (But.refl _ _)⟩
theorem rend_any {R : Nat} {s : Ss} (w : World) (H : RefS w R s) (hg : s.Good) :
    Calls Try.prog 20 #[ptrO R] w fun e w' => e = .returned (.int .i64 (s.fewE true)) ∧ RefS w' R s.fin ∧ But [R] w w' := by
  obtain ⟨-, -, c3, c4⟩ := H.cells
  have hbu := hg.busy
  have hli := hg.live
  have hma := hg.made
  have hmo := hg.most
  clear hg
  unfold Ss.fin
  by_cases h0 : s.busy = 0 ∨ s.live = 0
  · rw [if_pos h0]
    have e0 : s.fewE true = 3 := by rw [Ss.fewE, if_pos (h0.imp id fun h => ⟨rfl, h⟩)]
    rw [e0]
    by_cases h1 : s.busy = 0
    · rw [h1] at c4
      have HH := Lib.hid H
      clear H h0 e0 h1
      go_enter Try.func20, Try.ntmps20
      go_wp2_with fail
      go_ret
      exact ⟨rfl, HH.out, But.refl _ _⟩
    · have h2 : s.live = 0 := by omega
      have t0 : ((s.busy : Int) == 0) = false := by simp; omega
      rw [h2] at c3
      have HH := Lib.hid H
      clear H h0 e0 h1 h2
      go_enter Try.func20, Try.ntmps20
      go_wp2_with fail
      go_ret
      exact ⟨rfl, HH.out, But.refl _ _⟩
  · rw [if_neg h0]
    have e0 : s.fewE true = 0 := by rw [Ss.fewE, if_neg (by simpa using h0)]
    rw [e0]
    have t0 : ((s.busy : Int) == 0) = false := by simp; omega
    have t1 : ((s.live : Int) == 0) = false := by simp; omega
    have f4 := H.frozen 4
    have f3 := H.frozen 3
    have HR := Lib.hid H
    clear H e0
    go_enter Try.func20, Try.ntmps20
    go_wp2_with fail
    go_ret
    exact ⟨rfl, RRaw.set3 (RRaw.set4 HR.out (n := s.busy - 1) (by omega)) (n := s.live - 1) (by omega), butR (butR (But.refl _ _))⟩
end Go.Proofs.Ytfdinodcbeipcaa
