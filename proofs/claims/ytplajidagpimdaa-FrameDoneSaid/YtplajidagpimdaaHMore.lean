/-
  The walk of the law FrameMore.
-/
import Derived.Test.YtplajidagpimdaaHAlive
namespace Go.Proofs.Ytplajidagpimdaa
open Go.RowKit

attribute [local go_sem] eqRegs

theorem runF_at {p : Prg} (hm : checkW p = none) : ∀ (m n : Nat) (f g : Fra) (k : Int), (atF p f).isSome = true → runF p m n f = (g, k, 0) → (atF p g).isSome = true := by
  have next : ∀ f, locAt p f = true → (atF p (nextF p f)).isSome = true := fun f hl => by
    unfold locAt at hl
    unfold nextF
    cases hx : atF p f with
    | none => rw [hx] at hl; cases hl
    | some x => rw [hx] at hl; exact (doF_at hm hx hl).1
  intro m
  induction m with
  | zero =>
    intro n f g k ha h
    unfold runF at h
    cases hl : locAt p f with
    | true => rw [hl] at h; simp at h
    | false =>
      rw [hl] at h
      simp only [Bool.false_eq_true, if_false, Prod.mk.injEq, and_true] at h
      rw [← h.1]; exact ha
  | succ m ih =>
    intro n f g k ha h
    unfold runF at h
    cases hl : locAt p f with
    | true =>
      rw [hl] at h
      simp only [if_true] at h
      exact ih _ _ _ _ (next f hl) h
    | false =>
      rw [hl] at h
      simp only [Bool.false_eq_true, if_false, Prod.mk.injEq, and_true] at h
      rw [← h.1]; exact ha
theorem runT_ok {p : Prg} {f g : Fra} {m n : Int} (h : runT p f m = (g, n, 0)) : (atF p f).isSome = true ∧ 0 ≤ m ∧ m ≤ 65536 ∧ runF p m.toNat 0 f = (g, n, 0) := by
  unfold runT at h
  split at h
  · rename_i hb
    simp only [Bool.and_eq_true, decide_eq_true_eq] at hb
    exact ⟨hb.1.1, hb.1.2, hb.2, h⟩
  · simp at h
theorem runT_of {p : Prg} {f : Fra} {m : Int} (h : (atF p f).isSome = true) (h0 : 0 ≤ m) (h1 : m ≤ 65536) : runT p f m = runF p m.toNat 0 f := by
  unfold runT
  rw [h]
  simp [h0, h1]
theorem runT_more {p : Prg} (hm : checkW p = none) {f g : Fra} {m n b : Int} (h : runT p f m = (g, n, 0)) (hb : 0 ≤ b) (hmb : m + b ≤ 65536) : runT p f (m + b) = (g, n, 0) ∧ runT p g b = (g, 0, 0) ∧ n ≤ m := by
  obtain ⟨h1, h2, h3, h4⟩ := runT_ok h
  obtain ⟨k1, k2, k3, k4⟩ := runF_more _ _ _ _ _ h4
  refine ⟨?_, ?_, by omega⟩
  · rw [runT_of h1 (by omega) hmb, show (m + b).toNat = m.toNat + b.toNat by omega]
    exact k1 _
  · rw [runT_of (runF_at hm _ _ _ _ _ h1 h4) hb (by omega), runF_still k2]; rfl

set_option maxRecDepth 100000 in
set_option maxHeartbeats 3200000 in
theorem more_any {lo hi : Nat} {v1 v2 v3 : Value} {p : Prg} (f : Fra) (a b : Int) (ha : 0 ≤ a ∧ a < 65536) (hb : 0 ≤ b ∧ b < 65536) (w : World) (h : PrgAt lo hi w v1 v2 v3 p) :
    Calls Try.prog 5 #[.agg #[v1, v2, v3], fraV f, .int .u16 a, .int .u16 b] w fun e w' => e = .returned (.bool true) ∧ Below w.heap.size w w' := by
  obtain ⟨wf, hwf⟩ : ∃ wf, wf = (w.alloc (.cells #[v1, v2, v3] 26)).alloc (.cells (fraA f) 29) := ⟨_, rfl⟩
  have hB0 : Below w.heap.size w wf := by rw [hwf]; exact below2 w _ _
  have hP : Blk wf w.heap.size 26 #[v1, v2, v3] := by rw [hwf]; exact (blk_new w _ _).alloc _
  have hF : FrAt wf (w.heap.size + 1) f := by rw [hwf]; exact blk_at (by simp)
  have hlp : Calls Try.prog 7 #[.agg #[v1, v2, v3]] wf (LongPost wf p) := long_any wf (h.later hB0)
  have hfin : ∀ W, Below w.heap.size w W → Calls Try.prog 9 #[] W fun e w' => e = .returned (.bool true) ∧ Below w.heap.size w w' := fun W hW => (alive_any W).mono fun e w' ⟨e1, e2⟩ => ⟨e1, below_next hW e2 (Nat.le_refl _)⟩
  obtain ⟨m, hm⟩ : ∃ m, m = a % 2000 := ⟨_, rfl⟩
  obtain ⟨n, hn⟩ : ∃ n, n = b % 2000 := ⟨_, rfl⟩
  have hm1 : 0 ≤ m ∧ m < 2000 := by omega
  have hn1 : 0 ≤ n ∧ n < 2000 := by omega
  have wa : IntKind.i64.wrap a = a := by rw [IntKind.wrap_i64]; omega
  have wb : IntKind.i64.wrap b = b := by rw [IntKind.wrap_i64]; omega
  have ma := hm.symm
  have mb := hn.symm
  have ma2 : a.tmod 2000 = m := by rw [Int.tmod_eq_emod_of_nonneg ha.1]; exact ma
  have mb2 : b.tmod 2000 = n := by rw [Int.tmod_eq_emod_of_nonneg hb.1]; exact mb
  have wm : IntKind.i64.wrap m = m := by rw [IntKind.wrap_i64]; omega
  have wn : IntKind.i64.wrap n = n := by rw [IntKind.wrap_i64]; omega
  have wmn : IntKind.i64.wrap (m + n) = m + n := by rw [IntKind.wrap_i64]; omega
  clear hm hn
  have p0 := hP.cell (k := 0) (v := v1) rfl
  have p1 := hP.cell (k := 1) (v := v2) rfl
  have p2 := hP.cell (k := 2) (v := v3) rfl
  rw [hwf] at p0 p1 p2
  go_enter Try.func5, Try.ntmps5
  go_wp2_with fail
  rw [← hwf]
  clear hwf p0 p1 p2
  refine hlp.mono ?_
  rintro e w1 ⟨b1, rfl, hT1, hb1⟩
  have hB1 := below_next hB0 hb1 (Nat.le_refl _)
  have hP1 := hP.later hb1 hP.lt
  have hF1 := hF.later hb1 hF.lt
  clear hlp hb1 hP hB0 hF
  cases b1 with
  | true =>
    go_wp2_with (go_at_call 9; refine (hfin _ hB1).mono ?_; rintro e w2 ⟨rfl, hb⟩)
    go_ret
    exact ⟨rfl, hb⟩
  | false =>
    have tame := hT1 rfl
    clear hT1
    have hsn := sane_any w1 (h.later hB1) tame.small
    have p0 := hP1.cell (k := 0) (v := v1) rfl
    have p1 := hP1.cell (k := 1) (v := v2) rfl
    have p2 := hP1.cell (k := 2) (v := v3) rfl
    go_wp2_with fail
    refine hsn.mono ?_
    rintro e w2 ⟨b2, rfl, hmay, hb2⟩
    have hB2 := below_next hB1 hb2 (Nat.le_refl _)
    have hP2 := hP1.later hb2 hP1.lt
    have hF2 := hF1.later hb2 hF1.lt
    clear hsn hP1 hF1 hB1 hb2 p0 p1 p2
    cases b2 with
    | false =>
      go_wp2_with (go_at_call 9; refine (hfin _ hB2).mono ?_; rintro e w3 ⟨rfl, hb⟩)
      go_ret
      exact ⟨rfl, hb⟩
    | true =>
      have may := hmay rfl
      clear hmay
      obtain ⟨G, N, E, hR⟩ : ∃ G N E, runT p f m = (G, N, E) := ⟨_, _, _, rfl⟩
      have hrun := run_any w2 (h.later hB2) tame.small may f m
      rw [hR] at hrun
      have HR := Lib.hid hR
      clear hR
      have p0 := hP2.cell (k := 0) (v := v1) rfl
      have p1 := hP2.cell (k := 1) (v := v2) rfl
      have p2 := hP2.cell (k := 2) (v := v3) rfl
      obtain ⟨q0, q1, q2, q3, q4, q5, q6, q7, q8, q9⟩ := fra_cells hF2
      go_wp2_with fail
      refine hrun.mono ?_
      clear hrun p0 p1 p2 q0 q1 q2 q3 q4 q5 q6 q7 q8 q9
      rintro e w3 ⟨rfl, hb3⟩
      have hB3 := below_next hB2 hb3 (Nat.le_refl _)
      have hP3 := hP2.later hb3 hP2.lt
      have hF3 := hF2.later hb3 hF2.lt
      obtain ⟨w4, hw4⟩ : ∃ w4, w4 = w3.alloc (.cells (fraA G) 29) := ⟨_, rfl⟩
      have hB4 : Below w.heap.size w w4 := by rw [hw4]; exact hB3.alloc hB3.size _
      have hP4 : Blk w4 w.heap.size 26 #[v1, v2, v3] := by rw [hw4]; exact hP3.alloc _
      have hF4 : FrAt w4 (w.heap.size + 1) f := by rw [hw4]; exact hF3.alloc _
      have hG4 : FrAt w4 w3.heap.size G := by rw [hw4]; exact blk_new w3 _ _
      clear hb3 hP2 hF2 hB2 hP3 hF3 hB3
      by_cases hE : E = 0
      · have hEb : (E != 0) = false := by simp [hE]
        have hmo := runT_more may (HR.out.trans (by rw [hE])) hn1.1 (by omega : m + n ≤ 65536)
        have HE := Lib.hid hE
        have HLE : Hid (N ≤ m) := Lib.hid hmo.2.2
        clear hE
        have hrun := run_any w4 (h.later hB4) tame.small may f (m + n)
        rw [hmo.1] at hrun
        have p0 := hP4.cell (k := 0) (v := v1) rfl
        have p1 := hP4.cell (k := 1) (v := v2) rfl
        have p2 := hP4.cell (k := 2) (v := v3) rfl
        obtain ⟨q0, q1, q2, q3, q4, q5, q6, q7, q8, q9⟩ := fra_cells hF4
        rw [hw4] at p0 p1 p2 q0 q1 q2 q3 q4 q5 q6 q7 q8 q9
        go_wp2_with fail
        rw [← hw4]
        refine hrun.mono ?_
        clear hrun p0 p1 p2 q0 q1 q2 q3 q4 q5 q6 q7 q8 q9
        rintro e w5 ⟨rfl, hb5⟩
        have hB5 := below_next hB4 hb5 (Nat.le_refl _)
        have hP5 := hP4.later hb5 hP4.lt
        have hG5 := hG4.later hb5 hG4.lt
        obtain ⟨w6, hw6⟩ : ∃ w6, w6 = w5.alloc (.cells (fraA G) 29) := ⟨_, rfl⟩
        have hB6 : Below w.heap.size w w6 := by rw [hw6]; exact hB5.alloc hB5.size _
        have hP6 : Blk w6 w.heap.size 26 #[v1, v2, v3] := by rw [hw6]; exact hP5.alloc _
        have hG6 : FrAt w6 w3.heap.size G := by rw [hw6]; exact hG5.alloc _
        have hH6 : FrAt w6 w5.heap.size G := by rw [hw6]; exact blk_new w5 _ _
        clear hb5 hP4 hF4 hB4 hG4 hP5 hB5 hG5 hw4
        have hrun := run_any w6 (h.later hB6) tame.small may G n
        rw [hmo.2.1] at hrun
        clear hmo
        have p0 := hP6.cell (k := 0) (v := v1) rfl
        have p1 := hP6.cell (k := 1) (v := v2) rfl
        have p2 := hP6.cell (k := 2) (v := v3) rfl
        obtain ⟨q0, q1, q2, q3, q4, q5, q6, q7, q8, q9⟩ := fra_cells hG6
        rw [hw6] at p0 p1 p2 q0 q1 q2 q3 q4 q5 q6 q7 q8 q9
        go_wp2_with fail
        rw [← hw6]
        refine hrun.mono ?_
        clear hrun p0 p1 p2 q0 q1 q2 q3 q4 q5 q6 q7 q8 q9
        rintro e w7 ⟨rfl, hb7⟩
        have hB7 := below_next hB6 hb7 (Nat.le_refl _)
        have hG7 := hG6.later hb7 hG6.lt
        have hH7 := hH6.later hb7 hH6.lt
        obtain ⟨w8, hw8⟩ : ∃ w8, w8 = w7.alloc (.cells (fraA G) 29) := ⟨_, rfl⟩
        have hB8 : Below w.heap.size w w8 := by rw [hw8]; exact hB7.alloc hB7.size _
        have hG8 : FrAt w8 w3.heap.size G := by rw [hw8]; exact hG7.alloc _
        have hH8 : FrAt w8 w5.heap.size G := by rw [hw8]; exact hH7.alloc _
        have hI8 : FrAt w8 w7.heap.size G := by rw [hw8]; exact blk_new w7 _ _
        clear hb7 hP6 hB6 hG6 hH6 hB7 hG7 hH7 hw6
        obtain ⟨q0, q1, q2, q3, q4, q5, q6, q7, q8, q9⟩ := fra_cells hG8
        obtain ⟨x0, x1, x2, x3, x4, x5, x6, x7, x8, x9⟩ := fra_cells hH8
        obtain ⟨y0, y1, y2, y3, y4, y5, y6, y7, y8, y9⟩ := fra_cells hI8
        have hal := hfin w8 hB8
        rw [hw8] at q0 q1 q2 q3 q4 q5 q6 q7 q8 q9 x0 x1 x2 x3 x4 x5 x6 x7 x8 x9 y0 y1 y2 y3 y4 y5 y6 y7 y8 y9 hal
        have hle := HLE.out
        have hled : decide (N ≤ m) = true := by simpa using hle
        go_wp2_with (go_at_call 9; refine hal.mono ?_; rintro e w9 ⟨rfl, hb⟩)
        go_ret
        exact ⟨rfl, hb⟩
      · have hEb : (E != 0) = true := by simpa using hE
        have hal := hfin w4 hB4
        rw [hw4] at hal
        go_wp2_with (go_at_call 9; refine hal.mono ?_; rintro e w9 ⟨rfl, hb⟩)
        go_ret
        exact ⟨rfl, hb⟩
end Go.Proofs.Ytplajidagpimdaa
