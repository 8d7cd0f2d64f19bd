/-
  The walk of the law FrameRuns.
-/
import Derived.Test.YtplajidagpimdaaHMore
namespace Go.Proofs.Ytplajidagpimdaa
open Go.RowKit

attribute [local go_sem] eqRegs

theorem runK_at {p : Prg} (hm : checkW p = none) {f : Fra} (ha : (atF p f).isSome = true) : ∀ i, (∀ j, j < i → locAt p (runK p f j) = true) → (atF p (runK p f i)).isSome = true ∧ (runK p f i).c = f.c := by
  intro i
  induction i with
  | zero => intro _; exact ⟨ha, rfl⟩
  | succ i ih =>
    intro h
    obtain ⟨h1, h2⟩ := ih (fun j hj => h j (by omega))
    have hl := h i (by omega)
    have hl' := hl
    unfold locAt at hl
    show (atF p (nextF p (runK p f i))).isSome = true ∧ (nextF p (runK p f i)).c = f.c
    unfold nextF
    cases hx : atF p (runK p f i) with
    | none => rw [hx] at hl; cases hl
    | some x =>
      rw [hx] at hl
      obtain ⟨h3, h4⟩ := doF_at hm hx hl
      exact ⟨h3, h4.trans h2⟩
theorem stepF_loc {p : Prg} {f : Fra} (h : locAt p f = true) : stepF p f = (nextF p f, 0) := by
  unfold locAt at h
  unfold stepF nextF
  cases hx : atF p f with
  | none => rw [hx] at h; cases h
  | some x => rw [hx] at h; simp only [h, if_true]
theorem stepF_not {p : Prg} {f : Fra} (ha : (atF p f).isSome = true) (h : locAt p f = false) : stepF p f = (Fra.zero, 8) := by
  unfold locAt at h
  unfold stepF
  cases hx : atF p f with
  | none => rw [hx] at ha; cases ha
  | some x => rw [hx] at h; simp only [h]; rfl

set_option maxRecDepth 100000 in
set_option maxHeartbeats 3200000 in
theorem runs_any {lo hi : Nat} {v1 v2 v3 : Value} {p : Prg} (f : Fra) (a : Int) (ha : 0 ≤ a ∧ a < 65536) (w : World) (h : PrgAt lo hi w v1 v2 v3 p) :
    Calls Try.prog 4 #[.agg #[v1, v2, v3], fraV f, .int .u16 a] w fun e w' => e = .returned (.bool true) ∧ Below w.heap.size w w' := by
  obtain ⟨wf, hwf⟩ : ∃ wf, wf = (w.alloc (.cells #[v1, v2, v3] 26)).alloc (.cells (fraA f) 29) := ⟨_, rfl⟩
  have hB0 : Below w.heap.size w wf := by rw [hwf]; exact below2 w _ _
  have hP : Blk wf w.heap.size 26 #[v1, v2, v3] := by rw [hwf]; exact (blk_new w _ _).alloc _
  have hF : FrAt wf (w.heap.size + 1) f := by rw [hwf]; exact blk_at (by simp)
  have hlp : Calls Try.prog 7 #[.agg #[v1, v2, v3]] wf (LongPost wf p) := long_any wf (h.later hB0)
  have hfin : ∀ W, Below w.heap.size w W → Calls Try.prog 9 #[] W fun e w' => e = .returned (.bool true) ∧ Below w.heap.size w w' := fun W hW => (alive_any W).mono fun e w' ⟨e1, e2⟩ => ⟨e1, below_next hW e2 (Nat.le_refl _)⟩
  obtain ⟨m, hm⟩ : ∃ m, m = a % 3000 := ⟨_, rfl⟩
  have hm1 : 0 ≤ m ∧ m < 3000 := by omega
  obtain ⟨M, rfl⟩ : ∃ M : Nat, m = (M : Int) := ⟨m.toNat, by omega⟩
  have wa : IntKind.i64.wrap a = a := by rw [IntKind.wrap_i64]; omega
  have ma := hm.symm
  have ma2 : a.tmod 3000 = (M : Int) := by rw [Int.tmod_eq_emod_of_nonneg ha.1]; exact ma
  have wm : IntKind.i64.wrap (M : Int) = (M : Int) := by rw [IntKind.wrap_i64]; omega
  have hMM := Lib.hid hm1
  clear hm hm1
  have p0 := hP.cell (k := 0) (v := v1) rfl
  have p1 := hP.cell (k := 1) (v := v2) rfl
  have p2 := hP.cell (k := 2) (v := v3) rfl
  rw [hwf] at p0 p1 p2
  go_enter Try.func4, Try.ntmps4
  go_wp2_with fail
  rw [← hwf]
  clear hwf p0 p1 p2
  refine hlp.mono ?_
  rintro e w1 ⟨b1, rfl, hT1, hb1⟩
  have hB1 := below_next hB0 hb1 (Nat.le_refl _)
  have hP1 := hP.later hb1 hP.lt
  have hF1 := hF.later hb1 hF.lt
  clear hlp hb1 hP hB0 hF
  cases b1 with
  | true =>
    go_wp2_with (go_at_call 9; refine (hfin _ hB1).mono ?_; rintro e w2 ⟨rfl, hb⟩)
    go_ret
    exact ⟨rfl, hb⟩
  | false =>
    have tame := hT1 rfl
    clear hT1
    have hsn := sane_any w1 (h.later hB1) tame.small
    have p0 := hP1.cell (k := 0) (v := v1) rfl
    have p1 := hP1.cell (k := 1) (v := v2) rfl
    have p2 := hP1.cell (k := 2) (v := v3) rfl
    go_wp2_with fail
    refine hsn.mono ?_
    rintro e w2 ⟨b2, rfl, hmay, hb2⟩
    have hB2 := below_next hB1 hb2 (Nat.le_refl _)
    have hP2 := hP1.later hb2 hP1.lt
    have hF2 := hF1.later hb2 hF1.lt
    clear hsn hP1 hF1 hB1 hb2 p0 p1 p2
    cases b2 with
    | false =>
      go_wp2_with (go_at_call 9; refine (hfin _ hB2).mono ?_; rintro e w3 ⟨rfl, hb⟩)
      go_ret
      exact ⟨rfl, hb⟩
    | true =>
      have may := hmay rfl
      clear hmay
      have hck := fcheck_any w2 (h.later hB2) tame.small f
      have p0 := hP2.cell (k := 0) (v := v1) rfl
      have p1 := hP2.cell (k := 1) (v := v2) rfl
      have p2 := hP2.cell (k := 2) (v := v3) rfl
      obtain ⟨q0, q1, q2, q3, q4, q5, q6, q7, q8, q9⟩ := fra_cells hF2
      go_wp2_with fail
      refine hck.mono ?_
      clear hck p0 p1 p2 q0 q1 q2 q3 q4 q5 q6 q7 q8 q9
      rintro e w3 ⟨rfl, hb3⟩
      have hB3 := below_next hB2 hb3 (Nat.le_refl _)
      have hP3 := hP2.later hb3 hP2.lt
      have hF3 := hF2.later hb3 hF2.lt
      clear hb3 hP2 hF2 hB2
      cases hat : (atF p f).isSome with
      | false =>
        have e2 : okE false = 2 := rfl
        rw [e2]
        go_wp2_with (go_at_call 9; refine (hfin _ hB3).mono ?_; rintro e w4 ⟨rfl, hb⟩)
        go_ret
        exact ⟨rfl, hb⟩
      | true =>
        have e0 : okE true = 0 := rfl
        rw [e0]
        obtain ⟨G, N, E, hR⟩ : ∃ G N E, runF p M 0 f = (G, N, E) := ⟨_, _, _, rfl⟩
        have hrun := run_any w3 (h.later hB3) tame.small may f (M : Int)
        rw [runT_of hat (by omega) (by have := hMM.out; omega), Int.toNat_natCast, hR] at hrun
        have HE : Hid (E = 0 ∨ E = 5) := Lib.hid (by
          rcases runF_err (p := p) M 0 f with h1 | h1
          · rw [hR] at h1; exact .inl h1
          · rw [hR] at h1; simp only [Prod.mk.injEq] at h1; exact .inr h1.2.2)
        have HA := Lib.hid hat
        have HR := Lib.hid hR
        clear hR hat
        have p0 := hP3.cell (k := 0) (v := v1) rfl
        have p1 := hP3.cell (k := 1) (v := v2) rfl
        have p2 := hP3.cell (k := 2) (v := v3) rfl
        obtain ⟨q0, q1, q2, q3, q4, q5, q6, q7, q8, q9⟩ := fra_cells hF3
        go_wp2_with fail
        refine hrun.mono ?_
        clear hrun p0 p1 p2 q0 q1 q2 q3 q4 q5 q6 q7 q8 q9
        rintro e w4 ⟨rfl, hb4⟩
        have hB4 := below_next hB3 hb4 (Nat.le_refl _)
        have hP4 := hP3.later hb4 hP3.lt
        have hF4 := hF3.later hb4 hF3.lt
        obtain ⟨GB, hGB⟩ : ∃ GB, GB = w4.heap.size := ⟨_, rfl⟩
        obtain ⟨w5, hw5⟩ : ∃ w5, w5 = w4.alloc (.cells (fraA G) 29) := ⟨_, rfl⟩
        have hB5 : Below w.heap.size w w5 := by rw [hw5]; exact hB4.alloc hB4.size _
        have hP5 : Blk w5 w.heap.size 26 #[v1, v2, v3] := by rw [hw5]; exact hP4.alloc _
        have hF5 : FrAt w5 (w.heap.size + 1) f := by rw [hw5]; exact hF4.alloc _
        have hG5 : FrAt w5 GB G := by rw [hw5, hGB]; exact blk_new w4 _ _
        have hl4 := hF4.lt
        have hGl : w.heap.size + 1 < GB := by rw [hGB]; exact hl4
        clear hb4 hP3 hF3 hB3 hP4 hF4 hB4 hl4

        rcases HE.out with rfl | rfl
        · have HRE := Lib.hid HR.out
          have hwl : ∀ k : Nat, k ≤ M → IntKind.i64.wrap ((k : Int) + 1) = (k : Int) + 1 := fun k hk => by rw [IntKind.wrap_i64]; have := hMM.out; omega
          rw [hw5] at hG5
          go_wp2_with fail
          rw [← hw5]
          rw [← hw5] at hG5
          rw [← hGB]
          clear hw5 hGB
          go_loopw [11] (fun iv wr => ∃ k : Nat, k ≤ M + 1 ∧ iv = .int .i64 (k : Int) ∧ Below w.heap.size w wr ∧ Blk wr w.heap.size 26 #[v1, v2, v3] ∧ FrAt wr (w.heap.size + 1) (runK p f k) ∧ FrAt wr GB G ∧ Hid (∀ j, j < k → locAt p (runK p f j) = true)) (fun iv _ => M + 1 - (intOf iv).toNat)
          case atStart => exact ⟨0, by omega, rfl, hB5, hP5, hF5, hG5, Lib.hid (fun j hj => by omega)⟩
          case round =>
            obtain ⟨k, hk, rfl, hBr, hPr, hFr, hGr, HL⟩ := hrel
            clear hB5 hP5 hF5 hG5
            by_cases hlt : k ≤ M
            · have hle : (k : Int) ≤ (M : Int) := by omega
              have hled : decide ((k : Int) ≤ (M : Int)) = true := by simpa using hle
              have hwk := hwl k hlt
              obtain ⟨hkat, hkc⟩ := runK_at may HA.out k HL.out
              obtain ⟨g, hg⟩ : ∃ g, g = runK p f k := ⟨_, rfl⟩
              rw [← hg] at hFr hkat hkc
              have HG := Lib.hid hg
              clear hg
              have hst := step_any wr (h.later hBr) tame.small may g
              have p0 := hPr.cell (k := 0) (v := v1) rfl
              have p1 := hPr.cell (k := 1) (v := v2) rfl
              have p2 := hPr.cell (k := 2) (v := v3) rfl
              obtain ⟨q0, q1, q2, q3, q4, q5, q6, q7, q8, q9⟩ := fra_cells hFr
              cases hl : locAt p g with
              | false =>
                rw [stepF_not hkat hl] at hst
                have hend := runF_ends k M 0 f hlt HL.out (by rw [← HG.out]; exact hl)
                rw [HR.out, ← HG.out] at hend
                simp only [Prod.mk.injEq, Nat.zero_add, and_true] at hend
                obtain ⟨rfl, hN⟩ := hend
                have HN := Lib.hid hN
                clear hN hl hkat hkc
                go_wp2_with fail
                refine hst.mono ?_
                clear hst p0 p1 p2 q0 q1 q2 q3 q4 q5 q6 q7 q8 q9
                rintro e w6 ⟨rfl, hb6⟩
                have hB6 := below_next hBr hb6 (Nat.le_refl _)
                have hF6 := hFr.later hb6 hFr.lt
                have hG6 := hGr.later hb6 hGr.lt
                obtain ⟨w7, hw7⟩ : ∃ w7, w7 = w6.alloc (.cells (fraA Fra.zero) 29) := ⟨_, rfl⟩
                have hB7 : Below w.heap.size w w7 := by rw [hw7]; exact hB6.alloc hB6.size _
                have hF7 : FrAt w7 (w.heap.size + 1) G := by rw [hw7]; exact hF6.alloc _
                have hG7 : FrAt w7 GB G := by rw [hw7]; exact hG6.alloc _
                have hal := hfin w7 hB7
                obtain ⟨q0, q1, q2, q3, q4, q5, q6, q7, q8, q9⟩ := fra_cells hF7
                obtain ⟨x0, x1, x2, x3, x4, x5, x6, x7, x8, x9⟩ := fra_cells hG7
                rw [hw7] at q0 q1 q2 q3 q4 q5 q6 q7 q8 q9 x0 x1 x2 x3 x4 x5 x6 x7 x8 x9 hal
                clear hw7 hF7 hG7 hB7 hF6 hG6 hBr hPr hFr hGr
                rw [HN.out]
                go_wp2_with (go_at_call 9; refine hal.mono ?_; rintro e w9 ⟨rfl, hb⟩)
                go_ret
                exact ⟨rfl, hb⟩
              | true =>
                rw [stepF_loc hl] at hst
                obtain ⟨g', hg'⟩ : ∃ g', g' = nextF p g := ⟨_, rfl⟩
                have hnx : g' = runK p f (k + 1) := by rw [hg', HG.out]; rfl
                have hL' : ∀ j, j < k + 1 → locAt p (runK p f j) = true := fun j hj => by
                  by_cases e : j = k
                  · rw [e, ← HG.out]; exact hl
                  · exact HL.out j (by omega)
                obtain ⟨hnat, hnc⟩ := runK_at may HA.out (k + 1) hL'
                rw [← hnx] at hnat hnc
                rw [← hg'] at hst
                have HNX := Lib.hid hnx
                have HL' := Lib.hid hL'
                have hcc : (g'.c != g.c) = false := by rw [hnc, hkc]; simp
                clear hg' hnx hL' hl hkat hkc hnc
                go_wp2_with fail
                refine hst.mono ?_
                clear hst p0 p1 p2 q0 q1 q2 q3 q4 q5 q6 q7 q8 q9
                rintro e w6 ⟨rfl, hb6⟩
                have hB6 := below_next hBr hb6 (Nat.le_refl _)
                have hP6 := hPr.later hb6 hPr.lt
                have hF6 := hFr.later hb6 hFr.lt
                have hG6 := hGr.later hb6 hGr.lt
                obtain ⟨HB, hHB⟩ : ∃ HB, HB = w6.heap.size := ⟨_, rfl⟩
                obtain ⟨w7, hw7⟩ : ∃ w7, w7 = w6.alloc (.cells (fraA g') 29) := ⟨_, rfl⟩
                have hB7 : Below w.heap.size w w7 := by rw [hw7]; exact hB6.alloc hB6.size _
                have hP7 : Blk w7 w.heap.size 26 #[v1, v2, v3] := by rw [hw7]; exact hP6.alloc _
                have hF7 : FrAt w7 (w.heap.size + 1) g := by rw [hw7]; exact hF6.alloc _
                have hG7 : FrAt w7 GB G := by rw [hw7]; exact hG6.alloc _
                have hH7 : FrAt w7 HB g' := by rw [hw7, hHB]; exact blk_new w6 _ _
                have hHl : w.heap.size + 1 < HB := by rw [hHB]; exact hF6.lt
                have hck := fcheck_any w7 (h.later hB7) tame.small g'
                rw [hnat, show okE true = 0 from rfl] at hck
                have p0 := hP7.cell (k := 0) (v := v1) rfl
                have p1 := hP7.cell (k := 1) (v := v2) rfl
                have p2 := hP7.cell (k := 2) (v := v3) rfl
                obtain ⟨x0, x1, x2, x3, x4, x5, x6, x7, x8, x9⟩ := fra_cells hH7
                rw [hw7] at p0 p1 p2 x0 x1 x2 x3 x4 x5 x6 x7 x8 x9
                rw [hHB] at x0 x1 x2 x3 x4 x5 x6 x7 x8 x9
                go_wp2_with fail
                rw [← hw7, ← hHB]
                refine hck.mono ?_
                clear hck p0 p1 p2 x0 x1 x2 x3 x4 x5 x6 x7 x8 x9 hw7 hHB
                rintro e w8 ⟨rfl, hb8⟩
                have hB8 := below_next hB7 hb8 (Nat.le_refl _)
                have hP8 := hP7.later hb8 hP7.lt
                have hF8 := hF7.later hb8 hF7.lt
                have hG8 := hG7.later hb8 hG7.lt
                have hH8 := hH7.later hb8 hH7.lt
                obtain ⟨x0, x1, x2, x3, x4, x5, x6, x7, x8, x9⟩ := fra_cells hH8
                obtain ⟨q0, q1, q2, q3, q4, q5, q6, q7, q8, q9⟩ := fra_cells hF8
                have qf := hF8.frozen
                obtain ⟨w9, hw9, hX9, hb9⟩ : ∃ w9, w9 = ((((((((((w8.setCell ⟨w.heap.size + 1, 0, none⟩ (.int .i64 g'.c)).setCell ⟨w.heap.size + 1, 1, none⟩ (.int .i64 g'.p)).setCell ⟨w.heap.size + 1, 2, none⟩ (.int .i64 g'.r0)).setCell ⟨w.heap.size + 1, 3, none⟩ (.int .i64 g'.r1)).setCell ⟨w.heap.size + 1, 4, none⟩ (.int .i64 g'.r2)).setCell ⟨w.heap.size + 1, 5, none⟩ (.int .i64 g'.r3)).setCell ⟨w.heap.size + 1, 6, none⟩ (.int .i64 g'.r4)).setCell ⟨w.heap.size + 1, 7, none⟩ (.int .i64 g'.r5)).setCell ⟨w.heap.size + 1, 8, none⟩ (.int .i64 g'.r6)).setCell ⟨w.heap.size + 1, 9, none⟩ (.int .i64 g'.r7)) ∧ Blk w9 (w.heap.size + 1) 29 (fraA g') ∧ But [w.heap.size + 1] w8 w9 := ⟨_, rfl, sto10 hF8 (.int .i64 g'.c) (.int .i64 g'.p) (.int .i64 g'.r0) (.int .i64 g'.r1) (.int .i64 g'.r2) (.int .i64 g'.r3) (.int .i64 g'.r4) (.int .i64 g'.r5) (.int .i64 g'.r6) (.int .i64 g'.r7)⟩
                have hB9 := below_but hB8 hb9 (Nat.le_refl _) (by omega)
                have hP9 := but_on hP8 hb9 (by omega)
                have hG9 := but_on hG8 hb9 (by omega)
                clear hBr hPr hFr hGr hB6 hP6 hF6 hG6 hB7 hP7 hF7 hG7 hH7 hb6 hb8 hB8 hP8 hG8 hF8 hH8
                go_wp2_with fail
                rw [← hw9]
                go_roundw
                case rel => exact ⟨k + 1, by omega, by go_num, hB9, hP9, by rw [← HNX.out]; exact hX9, hG9, HL'⟩
                case measure => simp [intOf]; omega
            · have hle : ¬ (k : Int) ≤ (M : Int) := by omega
              have hled : decide ((k : Int) ≤ (M : Int)) = false := by simpa using hle
              exfalso
              have := runF_long M 0 f (fun j hj => HL.out j (by omega))
              rw [HR.out] at this
              simp at this
        · have HRE := Lib.hid HR.out
          have hwl : ∀ k : Nat, k ≤ M → IntKind.i64.wrap ((k : Int) + 1) = (k : Int) + 1 := fun k hk => by rw [IntKind.wrap_i64]; have := hMM.out; omega
          rw [hw5] at hG5
          go_wp2_with fail
          rw [← hw5]
          rw [← hw5] at hG5
          rw [← hGB]
          clear hw5 hGB
          go_loopw [11] (fun iv wr => ∃ k : Nat, k ≤ M + 1 ∧ iv = .int .i64 (k : Int) ∧ Below w.heap.size w wr ∧ Blk wr w.heap.size 26 #[v1, v2, v3] ∧ FrAt wr (w.heap.size + 1) (runK p f k) ∧ FrAt wr GB G ∧ Hid (∀ j, j < k → locAt p (runK p f j) = true)) (fun iv _ => M + 1 - (intOf iv).toNat)
          case atStart => exact ⟨0, by omega, rfl, hB5, hP5, hF5, hG5, Lib.hid (fun j hj => by omega)⟩
          case round =>
            obtain ⟨k, hk, rfl, hBr, hPr, hFr, hGr, HL⟩ := hrel
            clear hB5 hP5 hF5 hG5
            by_cases hlt : k ≤ M
            · have hle : (k : Int) ≤ (M : Int) := by omega
              have hled : decide ((k : Int) ≤ (M : Int)) = true := by simpa using hle
              have hwk := hwl k hlt
              obtain ⟨hkat, hkc⟩ := runK_at may HA.out k HL.out
              obtain ⟨g, hg⟩ : ∃ g, g = runK p f k := ⟨_, rfl⟩
              rw [← hg] at hFr hkat hkc
              have HG := Lib.hid hg
              clear hg
              have hst := step_any wr (h.later hBr) tame.small may g
              have p0 := hPr.cell (k := 0) (v := v1) rfl
              have p1 := hPr.cell (k := 1) (v := v2) rfl
              have p2 := hPr.cell (k := 2) (v := v3) rfl
              obtain ⟨q0, q1, q2, q3, q4, q5, q6, q7, q8, q9⟩ := fra_cells hFr
              cases hl : locAt p g with
              | false =>
                rw [stepF_not hkat hl] at hst
                exfalso
                have := runF_ends k M 0 f hlt HL.out (by rw [← HG.out]; exact hl)
                rw [HR.out] at this
                simp at this
              | true =>
                rw [stepF_loc hl] at hst
                obtain ⟨g', hg'⟩ : ∃ g', g' = nextF p g := ⟨_, rfl⟩
                have hnx : g' = runK p f (k + 1) := by rw [hg', HG.out]; rfl
                have hL' : ∀ j, j < k + 1 → locAt p (runK p f j) = true := fun j hj => by
                  by_cases e : j = k
                  · rw [e, ← HG.out]; exact hl
                  · exact HL.out j (by omega)
                obtain ⟨hnat, hnc⟩ := runK_at may HA.out (k + 1) hL'
                rw [← hnx] at hnat hnc
                rw [← hg'] at hst
                have HNX := Lib.hid hnx
                have HL' := Lib.hid hL'
                have hcc : (g'.c != g.c) = false := by rw [hnc, hkc]; simp
                clear hg' hnx hL' hl hkat hkc hnc
                go_wp2_with fail
                refine hst.mono ?_
                clear hst p0 p1 p2 q0 q1 q2 q3 q4 q5 q6 q7 q8 q9
                rintro e w6 ⟨rfl, hb6⟩
                have hB6 := below_next hBr hb6 (Nat.le_refl _)
                have hP6 := hPr.later hb6 hPr.lt
                have hF6 := hFr.later hb6 hFr.lt
                have hG6 := hGr.later hb6 hGr.lt
                obtain ⟨HB, hHB⟩ : ∃ HB, HB = w6.heap.size := ⟨_, rfl⟩
                obtain ⟨w7, hw7⟩ : ∃ w7, w7 = w6.alloc (.cells (fraA g') 29) := ⟨_, rfl⟩
                have hB7 : Below w.heap.size w w7 := by rw [hw7]; exact hB6.alloc hB6.size _
                have hP7 : Blk w7 w.heap.size 26 #[v1, v2, v3] := by rw [hw7]; exact hP6.alloc _
                have hF7 : FrAt w7 (w.heap.size + 1) g := by rw [hw7]; exact hF6.alloc _
                have hG7 : FrAt w7 GB G := by rw [hw7]; exact hG6.alloc _
                have hH7 : FrAt w7 HB g' := by rw [hw7, hHB]; exact blk_new w6 _ _
                have hHl : w.heap.size + 1 < HB := by rw [hHB]; exact hF6.lt
                have hck := fcheck_any w7 (h.later hB7) tame.small g'
                rw [hnat, show okE true = 0 from rfl] at hck
                have p0 := hP7.cell (k := 0) (v := v1) rfl
                have p1 := hP7.cell (k := 1) (v := v2) rfl
                have p2 := hP7.cell (k := 2) (v := v3) rfl
                obtain ⟨x0, x1, x2, x3, x4, x5, x6, x7, x8, x9⟩ := fra_cells hH7
                rw [hw7] at p0 p1 p2 x0 x1 x2 x3 x4 x5 x6 x7 x8 x9
                rw [hHB] at x0 x1 x2 x3 x4 x5 x6 x7 x8 x9
                go_wp2_with fail
                rw [← hw7, ← hHB]
                refine hck.mono ?_
                clear hck p0 p1 p2 x0 x1 x2 x3 x4 x5 x6 x7 x8 x9 hw7 hHB
                rintro e w8 ⟨rfl, hb8⟩
                have hB8 := below_next hB7 hb8 (Nat.le_refl _)
                have hP8 := hP7.later hb8 hP7.lt
                have hF8 := hF7.later hb8 hF7.lt
                have hG8 := hG7.later hb8 hG7.lt
                have hH8 := hH7.later hb8 hH7.lt
                obtain ⟨x0, x1, x2, x3, x4, x5, x6, x7, x8, x9⟩ := fra_cells hH8
                obtain ⟨q0, q1, q2, q3, q4, q5, q6, q7, q8, q9⟩ := fra_cells hF8
                have qf := hF8.frozen
                obtain ⟨w9, hw9, hX9, hb9⟩ : ∃ w9, w9 = ((((((((((w8.setCell ⟨w.heap.size + 1, 0, none⟩ (.int .i64 g'.c)).setCell ⟨w.heap.size + 1, 1, none⟩ (.int .i64 g'.p)).setCell ⟨w.heap.size + 1, 2, none⟩ (.int .i64 g'.r0)).setCell ⟨w.heap.size + 1, 3, none⟩ (.int .i64 g'.r1)).setCell ⟨w.heap.size + 1, 4, none⟩ (.int .i64 g'.r2)).setCell ⟨w.heap.size + 1, 5, none⟩ (.int .i64 g'.r3)).setCell ⟨w.heap.size + 1, 6, none⟩ (.int .i64 g'.r4)).setCell ⟨w.heap.size + 1, 7, none⟩ (.int .i64 g'.r5)).setCell ⟨w.heap.size + 1, 8, none⟩ (.int .i64 g'.r6)).setCell ⟨w.heap.size + 1, 9, none⟩ (.int .i64 g'.r7)) ∧ Blk w9 (w.heap.size + 1) 29 (fraA g') ∧ But [w.heap.size + 1] w8 w9 := ⟨_, rfl, sto10 hF8 (.int .i64 g'.c) (.int .i64 g'.p) (.int .i64 g'.r0) (.int .i64 g'.r1) (.int .i64 g'.r2) (.int .i64 g'.r3) (.int .i64 g'.r4) (.int .i64 g'.r5) (.int .i64 g'.r6) (.int .i64 g'.r7)⟩
                have hB9 := below_but hB8 hb9 (Nat.le_refl _) (by omega)
                have hP9 := but_on hP8 hb9 (by omega)
                have hG9 := but_on hG8 hb9 (by omega)
                clear hBr hPr hFr hGr hB6 hP6 hF6 hG6 hB7 hP7 hF7 hG7 hH7 hb6 hb8 hB8 hP8 hG8 hF8 hH8
                go_wp2_with fail
                rw [← hw9]
                go_roundw
                case rel => exact ⟨k + 1, by omega, by go_num, hB9, hP9, by rw [← HNX.out]; exact hX9, hG9, HL'⟩
                case measure => simp [intOf]; omega
            · have hle : ¬ (k : Int) ≤ (M : Int) := by omega
              have hled : decide ((k : Int) ≤ (M : Int)) = false := by simpa using hle
              have hal := hfin wr hBr
              go_wp2_with (go_at_call 9; refine hal.mono ?_; rintro e w9 ⟨rfl, hb⟩)
              go_ret
              exact ⟨rfl, hb⟩
end Go.Proofs.Ytplajidagpimdaa
