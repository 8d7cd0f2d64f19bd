/-
  The walk of the document's own Run.
-/
import Derived.Test.YtplajidagpimdaaHRefB
import Derived.Test.YtplajidagpimdaaHRuns
namespace Go.Proofs.Ytplajidagpimdaa
open Go.RowKit

theorem rstep_any {lo hi : Nat} {v1 v2 v3 : Value} {p : Prg} (w : World) (h : PrgAt lo hi w v1 v2 v3 p) (hs : Small p) (hm : checkW p = none) (f : Fra) :
    Calls Try.prog 14 #[.agg #[v1, v2, v3], fraV f] w fun e w' => e = .returned (.tuple #[fraV (stepF p f).1, .int .i64 (stepF p f).2]) ∧ Below w.heap.size w w' := by
  cases hx : atF p f with
  | none =>
    have e : stepF p f = (Fra.zero, 2) := by unfold stepF; rw [hx]
    rw [e]
    exact rstep_none w h hs f hx
  | some x =>
    cases hl : locO x.o with
    | false =>
      have e : stepF p f = (Fra.zero, 8) := by unfold stepF; rw [hx]; simp only [hl]; rfl
      rw [e]
      exact rstep_other w h hs f hx hl
    | true =>
      have e : stepF p f = (doF x f, 0) := by unfold stepF; rw [hx]; simp only [hl]; rfl
      rw [e]
      obtain ⟨ha, hb⟩ := at_regs hm hx
      have hp := at_pc hs hx
      obtain ⟨o, a, b, c, k⟩ := x
      simp only at hl ha hb
      obtain ⟨n, rfl⟩ : ∃ n : Nat, a = (n : Int) := ⟨a.toNat, by omega⟩
      obtain ⟨m, rfl⟩ : ∃ m : Nat, b = (m : Int) := ⟨b.toNat, by omega⟩
      have hn : n < 8 := by omega
      have hm' : m < 8 := by omega
      have := locO_iff.1 hl
      obtain rfl | rfl | rfl | rfl : o = 1 ∨ o = 2 ∨ o = 3 ∨ o = 4 := by omega
      · exact rstep_1 w h hs f hx hn hm' hp
      · exact rstep_2 w h hs f hx hn hm' hp
      · exact rstep_3 w h hs f hx hn hm' hp
      · exact rstep_4 w h hs f hx hn hm' hp (Lib.hid rfl)

set_option maxRecDepth 100000 in
set_option maxHeartbeats 3200000 in
theorem rrun_bad {lo hi : Nat} {v1 v2 v3 : Value} {p : Prg} (w : World) (h : PrgAt lo hi w v1 v2 v3 p) (hs : Small p) (f : Fra) (most : Int) (hbad : ((atF p f).isSome && decide (0 ≤ most) && decide (most ≤ 65536)) = false) :
    Calls Try.prog 16 #[.agg #[v1, v2, v3], fraV f, .int .i64 most] w fun e w' => e = .returned (.tuple #[fraV Fra.zero, .int .i64 0, .int .i64 2]) ∧ Below w.heap.size w w' := by
  obtain ⟨wf, hwf⟩ : ∃ wf, wf = ((w.alloc (.cells #[v1, v2, v3] 26)).alloc (.cells (fraA f) 29)).alloc (.cells (fraA Fra.zero) 29) := ⟨_, rfl⟩
  have hB : Below w.heap.size w wf := by rw [hwf]; exact below3 w _ _ _
  have hP : Blk wf w.heap.size 26 #[v1, v2, v3] := by rw [hwf]; exact ((blk_new w _ _).alloc _).alloc _
  have hF : FrAt wf (w.heap.size + 1) f := by rw [hwf]; exact (blk_at (by simp)).alloc _
  have hZ : Blk wf (w.heap.size + 1 + 1) 29 (fraA Fra.zero) := by rw [hwf]; exact blk_at (by simp)
  have hc := rmay_any wf (h.later hB) hs f
  go_enter Try.func16, Try.ntmps16
  go_wp2_with fail
  rw [show (#[.int .i64 0, .int .i64 0, .int .i64 0, .int .i64 0, .int .i64 0, .int .i64 0, .int .i64 0, .int .i64 0, .int .i64 0, .int .i64 0] : Array Value) = fraA Fra.zero from rfl, ← hwf]
  clear hwf
  refine hc.mono ?_
  rintro e w1 ⟨rfl, hb⟩
  have hB1 := below_next hB hb (Nat.le_refl _)
  have hP1 := hP.later hb hP.lt
  have hF1 := hF.later hb hF.lt
  have hZ1 := hZ.later hb hZ.lt
  clear hc hB hb hP hF hZ
  obtain ⟨z0, z1, z2, z3, z4, z5, z6, z7, z8, z9⟩ := fra_cells hZ1
  have zf := hZ1.frozen
  obtain ⟨w9, hw9, hX9, hb9⟩ : ∃ w9, w9 = ((((((((((w1.setCell ⟨w.heap.size + 1 + 1, 0, none⟩ (.int .i64 0)).setCell ⟨w.heap.size + 1 + 1, 1, none⟩ (.int .i64 0)).setCell ⟨w.heap.size + 1 + 1, 2, none⟩ (.int .i64 0)).setCell ⟨w.heap.size + 1 + 1, 3, none⟩ (.int .i64 0)).setCell ⟨w.heap.size + 1 + 1, 4, none⟩ (.int .i64 0)).setCell ⟨w.heap.size + 1 + 1, 5, none⟩ (.int .i64 0)).setCell ⟨w.heap.size + 1 + 1, 6, none⟩ (.int .i64 0)).setCell ⟨w.heap.size + 1 + 1, 7, none⟩ (.int .i64 0)).setCell ⟨w.heap.size + 1 + 1, 8, none⟩ (.int .i64 0)).setCell ⟨w.heap.size + 1 + 1, 9, none⟩ (.int .i64 0)) ∧ Blk w9 (w.heap.size + 1 + 1) 29 (fraA Fra.zero) ∧ But [w.heap.size + 1 + 1] w1 w9 := ⟨_, rfl, sto10 hZ1 (.int .i64 0) (.int .i64 0) (.int .i64 0) (.int .i64 0) (.int .i64 0) (.int .i64 0) (.int .i64 0) (.int .i64 0) (.int .i64 0) (.int .i64 0)⟩
  have hB9 := below_but hB1 hb9 (Nat.le_refl _) (by omega)
  have HW := Lib.hid hw9
  clear hw9
  cases hi : (atF p f).isSome with
  | false =>
    clear hbad hi
    go_wp2_with fail
    rw [← HW.out]
    obtain ⟨g0, g1, g2, g3, g4, g5, g6, g7, g8, g9⟩ := fra_cells hX9
    refine bodyPost_ret (v := .tuple #[fraV Fra.zero, .int .i64 0, .int .i64 2]) (by simp [results, Try.f16, go_sem, g0, g1, g2, g3, g4, g5, g6, g7, g8, g9, Fra.zero]) rfl ?_
    exact ⟨rfl, hB9⟩
  | true =>
    rw [hi, Bool.true_and] at hbad
    clear hi
    by_cases hm0 : most < 0
    · have m0d : decide (most < 0) = true := by simpa using hm0
      clear hbad
      go_wp2_with fail
      rw [← HW.out]
      obtain ⟨g0, g1, g2, g3, g4, g5, g6, g7, g8, g9⟩ := fra_cells hX9
      refine bodyPost_ret (v := .tuple #[fraV Fra.zero, .int .i64 0, .int .i64 2]) (by simp [results, Try.f16, go_sem, g0, g1, g2, g3, g4, g5, g6, g7, g8, g9, Fra.zero]) rfl ?_
      exact ⟨rfl, hB9⟩
    · have m0d : decide (most < 0) = false := by simpa using hm0
      have m2 : 65536 < most := by
        simp only [Bool.and_eq_false_iff, decide_eq_false_iff_not] at hbad
        omega
      have m2d : decide (65536 < most) = true := by simpa using m2
      clear hbad
      go_wp2_with fail
      rw [← HW.out]
      obtain ⟨g0, g1, g2, g3, g4, g5, g6, g7, g8, g9⟩ := fra_cells hX9
      refine bodyPost_ret (v := .tuple #[fraV Fra.zero, .int .i64 0, .int .i64 2]) (by simp [results, Try.f16, go_sem, g0, g1, g2, g3, g4, g5, g6, g7, g8, g9, Fra.zero]) rfl ?_
      exact ⟨rfl, hB9⟩
set_option maxRecDepth 100000 in
set_option maxHeartbeats 3200000 in
theorem rrun_ok {lo hi : Nat} {v1 v2 v3 : Value} {p : Prg} (w : World) (h : PrgAt lo hi w v1 v2 v3 p) (hs : Small p) (hm : checkW p = none) (f : Fra) (hat : (atF p f).isSome = true) (M : Nat) (hM : M ≤ 65536) {G : Fra} {N E : Int} (HR : Hid (runF p M 0 f = (G, N, E))) :
    Calls Try.prog 16 #[.agg #[v1, v2, v3], fraV f, .int .i64 (M : Int)] w fun e w' => e = .returned (.tuple #[fraV G, .int .i64 N, .int .i64 E]) ∧ Below w.heap.size w w' := by
  have m0 : ¬ (M : Int) < 0 := by omega
  have m1 : (M : Int) ≤ 65536 := by omega
  have m0d : decide ((M : Int) < 0) = false := decide_eq_false m0
  have m2d : decide ((65536 : Int) < (M : Int)) = false := decide_eq_false (by omega)
  obtain ⟨wf, hwf⟩ : ∃ wf, wf = ((w.alloc (.cells #[v1, v2, v3] 26)).alloc (.cells (fraA f) 29)).alloc (.cells (fraA Fra.zero) 29) := ⟨_, rfl⟩
  have hB : Below w.heap.size w wf := by rw [hwf]; exact below3 w _ _ _
  have hP : Blk wf w.heap.size 26 #[v1, v2, v3] := by rw [hwf]; exact ((blk_new w _ _).alloc _).alloc _
  have hF : FrAt wf (w.heap.size + 1) f := by rw [hwf]; exact (blk_at (by simp)).alloc _
  have hZ : Blk wf (w.heap.size + 1 + 1) 29 (fraA Fra.zero) := by rw [hwf]; exact blk_at (by simp)
  have hc := rmay_any wf (h.later hB) hs f
  go_enter Try.func16, Try.ntmps16
  go_wp2_with fail
  rw [show (#[.int .i64 0, .int .i64 0, .int .i64 0, .int .i64 0, .int .i64 0, .int .i64 0, .int .i64 0, .int .i64 0, .int .i64 0, .int .i64 0] : Array Value) = fraA Fra.zero from rfl, ← hwf]
  clear hwf
  refine hc.mono ?_
  rintro e w1 ⟨rfl, hb⟩
  have hB1 := below_next hB hb (Nat.le_refl _)
  have hP1 := hP.later hb hP.lt
  have hF1 := hF.later hb hF.lt
  have hZ1 := hZ.later hb hZ.lt
  clear hc hB hb hP hF hZ
  rw [hat]
  have HA := Lib.hid hat
  have hwl : ∀ k : Nat, k ≤ M → IntKind.i64.wrap ((k : Int) + 1) = (k : Int) + 1 := fun k hk => by rw [IntKind.wrap_i64]; omega
  have hfld : ∀ (o a b c k : Value) (w : World), (Instr.field 33 (.agg #[o, a, b, c, k]) 0).run Try.prog w = .ok o w := fun _ _ _ _ _ _ => by kernel_rfl
  clear hat
  go_wp2_with fail
  go_loopw [9] (fun iv wr => ∃ k : Nat, k ≤ M + 1 ∧ iv = .int .i64 (k : Int) ∧ Below w.heap.size w wr ∧ Blk wr w.heap.size 26 #[v1, v2, v3] ∧ FrAt wr (w.heap.size + 1) (runK p f k) ∧ FrAt wr (w.heap.size + 1 + 1) Fra.zero ∧ Hid (∀ j, j < k → locAt p (runK p f j) = true)) (fun iv _ => M + 1 - (intOf iv).toNat)
  case atStart => exact ⟨0, by omega, rfl, hB1, hP1, hF1, hZ1, Lib.hid (fun j hj => by omega)⟩
  case round =>
    obtain ⟨k, hk, rfl, hBr, hPr, hFr, hZr, HL⟩ := hrel
    clear hB1 hP1 hF1 hZ1
    by_cases hlt : k ≤ M
    · have hle : (k : Int) ≤ (M : Int) := by omega
      have hled : decide ((k : Int) ≤ (M : Int)) = true := by simpa using hle
      have hwk := hwl k hlt
      obtain ⟨hkat, hkc⟩ := runK_at hm HA.out k HL.out
      obtain ⟨g, hg⟩ : ∃ g, g = runK p f k := ⟨_, rfl⟩
      rw [← hg] at hFr hkat hkc
      have HG := Lib.hid hg
      clear hg hkc
      obtain ⟨x, hx⟩ := Option.isSome_iff_exists.1 hkat
      have hma := rmay_any wr (h.later hBr) hs g
      rw [hkat] at hma
      have p0 := hPr.cell (k := 0) (v := v1) rfl
      have p1 := hPr.cell (k := 1) (v := v2) rfl
      have p2 := hPr.cell (k := 2) (v := v3) rfl
      obtain ⟨q0, q1, q2, q3, q4, q5, q6, q7, q8, q9⟩ := fra_cells hFr
      go_wp2_with fail
      refine hma.mono ?_
      clear hma p0 p1 p2 q0 q1 q2 q3 q4 q5 q6 q7 q8 q9
      rintro e w3 ⟨rfl, hb3⟩
      have hB3 := below_next hBr hb3 (Nat.le_refl _)
      have hP3 := hPr.later hb3 hPr.lt
      have hF3 := hFr.later hb3 hFr.lt
      have hZ3 := hZr.later hb3 hZr.lt
      clear hb3 hBr hPr hFr hZr
      have hat := rat_any w3 (h.later hB3) g hx
      have p0 := hP3.cell (k := 0) (v := v1) rfl
      have p1 := hP3.cell (k := 1) (v := v2) rfl
      have p2 := hP3.cell (k := 2) (v := v3) rfl
      obtain ⟨q0, q1, q2, q3, q4, q5, q6, q7, q8, q9⟩ := fra_cells hF3
      go_wp2_with fail
      refine hat.mono ?_
      clear hat p0 p1 p2 q0 q1 q2 q3 q4 q5 q6 q7 q8 q9
      rintro e w4 ⟨rfl, hb4⟩
      have hB4 := below_next hB3 hb4 (Nat.le_refl _)
      have hP4 := hP3.later hb4 hP3.lt
      have hF4 := hF3.later hb4 hF3.lt
      have hZ4 := hZ3.later hb4 hZ3.lt
      clear hb4 hB3 hP3 hF3 hZ3
      have hloc := rlocal_any x.o w4
      cases hl : locO x.o with
      | false =>
        rw [hl] at hloc
        have hla : locAt p g = false := by unfold locAt; rw [hx]; exact hl
        have hend := runF_ends k M 0 f hlt HL.out (by rw [← HG.out]; exact hla)
        rw [HR.out, ← HG.out] at hend
        simp only [Prod.mk.injEq, Nat.zero_add] at hend
        obtain ⟨rfl, rfl, rfl⟩ := hend
        clear hl hla hx hkat
        obtain ⟨q0, q1, q2, q3, q4, q5, q6, q7, q8, q9⟩ := fra_cells hF4
        obtain ⟨z0, z1, z2, z3, z4, z5, z6, z7, z8, z9⟩ := fra_cells hZ4
        have zf := hZ4.frozen
        obtain ⟨w9, hw9, hX9, hb9⟩ : ∃ w9, w9 = ((((((((((w4.setCell ⟨w.heap.size + 1 + 1, 0, none⟩ (.int .i64 G.c)).setCell ⟨w.heap.size + 1 + 1, 1, none⟩ (.int .i64 G.p)).setCell ⟨w.heap.size + 1 + 1, 2, none⟩ (.int .i64 G.r0)).setCell ⟨w.heap.size + 1 + 1, 3, none⟩ (.int .i64 G.r1)).setCell ⟨w.heap.size + 1 + 1, 4, none⟩ (.int .i64 G.r2)).setCell ⟨w.heap.size + 1 + 1, 5, none⟩ (.int .i64 G.r3)).setCell ⟨w.heap.size + 1 + 1, 6, none⟩ (.int .i64 G.r4)).setCell ⟨w.heap.size + 1 + 1, 7, none⟩ (.int .i64 G.r5)).setCell ⟨w.heap.size + 1 + 1, 8, none⟩ (.int .i64 G.r6)).setCell ⟨w.heap.size + 1 + 1, 9, none⟩ (.int .i64 G.r7)) ∧ Blk w9 (w.heap.size + 1 + 1) 29 (fraA G) ∧ But [w.heap.size + 1 + 1] w4 w9 := ⟨_, rfl, sto10 hZ4 (.int .i64 G.c) (.int .i64 G.p) (.int .i64 G.r0) (.int .i64 G.r1) (.int .i64 G.r2) (.int .i64 G.r3) (.int .i64 G.r4) (.int .i64 G.r5) (.int .i64 G.r6) (.int .i64 G.r7)⟩
        have hB9 := below_but hB4 hb9 (Nat.le_refl _) (by omega)
        go_wp2_with (go_at_call 27; refine hloc.mono ?_; rintro e w4 ⟨rfl, rfl⟩)
        rw [← hw9]
        obtain ⟨g0, g1, g2, g3, g4, g5, g6, g7, g8, g9⟩ := fra_cells hX9
        refine bodyPost_ret (v := .tuple #[fraV G, .int .i64 (k : Int), .int .i64 0]) (by simp [results, Try.f16, go_sem, g0, g1, g2, g3, g4, g5, g6, g7, g8, g9]) rfl ?_
        exact ⟨rfl, hB9⟩
      | true =>
        rw [hl] at hloc
        have hla : locAt p g = true := by unfold locAt; rw [hx]; exact hl
        have hst := rstep_any w4 (h.later hB4) hs hm g
        rw [stepF_loc hla] at hst
        obtain ⟨g', hg'⟩ : ∃ g', g' = nextF p g := ⟨_, rfl⟩
        have hnx : g' = runK p f (k + 1) := by rw [hg', HG.out]; rfl
        have hL' : ∀ j, j < k + 1 → locAt p (runK p f j) = true := fun j hj => by
          by_cases e : j = k
          · rw [e, ← HG.out]; exact hla
          · exact HL.out j (by omega)
        rw [← hg'] at hst
        have HNX := Lib.hid hnx
        have HL' := Lib.hid hL'
        clear hg' hnx hL' hl hla hx hkat
        have p0 := hP4.cell (k := 0) (v := v1) rfl
        have p1 := hP4.cell (k := 1) (v := v2) rfl
        have p2 := hP4.cell (k := 2) (v := v3) rfl
        obtain ⟨q0, q1, q2, q3, q4, q5, q6, q7, q8, q9⟩ := fra_cells hF4
        go_wp2_with fail
        refine hloc.mono ?_
        rintro e w4 ⟨rfl, rfl⟩
        go_wp2_with fail
        refine hst.mono ?_
        clear hst hloc p0 p1 p2 q0 q1 q2 q3 q4 q5 q6 q7 q8 q9
        rintro e w8 ⟨rfl, hb8⟩
        have hB8 := below_next hB4 hb8 (Nat.le_refl _)
        have hP8 := hP4.later hb8 hP4.lt
        have hF8 := hF4.later hb8 hF4.lt
        have hZ8 := hZ4.later hb8 hZ4.lt
        obtain ⟨q0, q1, q2, q3, q4, q5, q6, q7, q8, q9⟩ := fra_cells hF8
        have qf := hF8.frozen
        obtain ⟨w9, hw9, hX9, hb9⟩ : ∃ w9, w9 = ((((((((((w8.setCell ⟨w.heap.size + 1, 0, none⟩ (.int .i64 g'.c)).setCell ⟨w.heap.size + 1, 1, none⟩ (.int .i64 g'.p)).setCell ⟨w.heap.size + 1, 2, none⟩ (.int .i64 g'.r0)).setCell ⟨w.heap.size + 1, 3, none⟩ (.int .i64 g'.r1)).setCell ⟨w.heap.size + 1, 4, none⟩ (.int .i64 g'.r2)).setCell ⟨w.heap.size + 1, 5, none⟩ (.int .i64 g'.r3)).setCell ⟨w.heap.size + 1, 6, none⟩ (.int .i64 g'.r4)).setCell ⟨w.heap.size + 1, 7, none⟩ (.int .i64 g'.r5)).setCell ⟨w.heap.size + 1, 8, none⟩ (.int .i64 g'.r6)).setCell ⟨w.heap.size + 1, 9, none⟩ (.int .i64 g'.r7)) ∧ Blk w9 (w.heap.size + 1) 29 (fraA g') ∧ But [w.heap.size + 1] w8 w9 := ⟨_, rfl, sto10 hF8 (.int .i64 g'.c) (.int .i64 g'.p) (.int .i64 g'.r0) (.int .i64 g'.r1) (.int .i64 g'.r2) (.int .i64 g'.r3) (.int .i64 g'.r4) (.int .i64 g'.r5) (.int .i64 g'.r6) (.int .i64 g'.r7)⟩
        have hB9 := below_but hB8 hb9 (Nat.le_refl _) (by omega)
        have hP9 := but_on hP8 hb9 (by omega)
        have hZ9 := but_on hZ8 hb9 (by omega)
        clear hb8 hB8 hP8 hF8 hZ8 hB4 hP4 hF4 hZ4
        go_wp2_with fail
        rw [← hw9]
        go_roundw
        case rel => exact ⟨k + 1, by omega, by go_num, hB9, hP9, by rw [← HNX.out]; exact hX9, hZ9, HL'⟩
        case measure => simp [intOf]; omega
    · have hle : ¬ (k : Int) ≤ (M : Int) := by omega
      have hled : decide ((k : Int) ≤ (M : Int)) = false := by simpa using hle
      have hend := runF_long M 0 f (fun j hj => HL.out j (by omega))
      rw [HR.out] at hend
      simp only [Prod.mk.injEq] at hend
      obtain ⟨rfl, rfl, rfl⟩ := hend
      obtain ⟨z0, z1, z2, z3, z4, z5, z6, z7, z8, z9⟩ := fra_cells hZr
      have zf := hZr.frozen
      obtain ⟨w9, hw9, hX9, hb9⟩ : ∃ w9, w9 = ((((((((((wr.setCell ⟨w.heap.size + 1 + 1, 0, none⟩ (.int .i64 0)).setCell ⟨w.heap.size + 1 + 1, 1, none⟩ (.int .i64 0)).setCell ⟨w.heap.size + 1 + 1, 2, none⟩ (.int .i64 0)).setCell ⟨w.heap.size + 1 + 1, 3, none⟩ (.int .i64 0)).setCell ⟨w.heap.size + 1 + 1, 4, none⟩ (.int .i64 0)).setCell ⟨w.heap.size + 1 + 1, 5, none⟩ (.int .i64 0)).setCell ⟨w.heap.size + 1 + 1, 6, none⟩ (.int .i64 0)).setCell ⟨w.heap.size + 1 + 1, 7, none⟩ (.int .i64 0)).setCell ⟨w.heap.size + 1 + 1, 8, none⟩ (.int .i64 0)).setCell ⟨w.heap.size + 1 + 1, 9, none⟩ (.int .i64 0)) ∧ Blk w9 (w.heap.size + 1 + 1) 29 (fraA Fra.zero) ∧ But [w.heap.size + 1 + 1] wr w9 := ⟨_, rfl, sto10 hZr (.int .i64 0) (.int .i64 0) (.int .i64 0) (.int .i64 0) (.int .i64 0) (.int .i64 0) (.int .i64 0) (.int .i64 0) (.int .i64 0) (.int .i64 0)⟩
      have hB9 := below_but hBr hb9 (Nat.le_refl _) (by omega)
      go_wp2_with fail
      rw [← hw9]
      obtain ⟨g0, g1, g2, g3, g4, g5, g6, g7, g8, g9⟩ := fra_cells hX9
      refine bodyPost_ret (v := .tuple #[fraV Fra.zero, .int .i64 0, .int .i64 5]) (by simp [results, Try.f16, go_sem, g0, g1, g2, g3, g4, g5, g6, g7, g8, g9, Fra.zero]) rfl ?_
      exact ⟨rfl, hB9⟩
theorem rrun_any {lo hi : Nat} {v1 v2 v3 : Value} {p : Prg} (w : World) (h : PrgAt lo hi w v1 v2 v3 p) (hs : Small p) (hm : checkW p = none) (f : Fra) (most : Int) :
    Calls Try.prog 16 #[.agg #[v1, v2, v3], fraV f, .int .i64 most] w fun e w' => e = .returned (.tuple #[fraV (runT p f most).1, .int .i64 (runT p f most).2.1, .int .i64 (runT p f most).2.2]) ∧ Below w.heap.size w w' := by
  cases hb : (atF p f).isSome && decide (0 ≤ most) && decide (most ≤ 65536) with
  | false =>
    have : runT p f most = (Fra.zero, 0, 2) := by unfold runT; rw [hb]; rfl
    rw [this]
    exact rrun_bad w h hs f most hb
  | true =>
    have : runT p f most = runF p most.toNat 0 f := by unfold runT; rw [hb]; rfl
    rw [this]
    simp only [Bool.and_eq_true, decide_eq_true_eq] at hb
    obtain ⟨⟨h1, h2⟩, h3⟩ := hb
    have := rrun_ok w h hs hm f h1 most.toNat (by omega) (Lib.hid rfl : Hid (runF p most.toNat 0 f = _))
    rw [Int.toNat_of_nonneg h2] at this
    exact this
end Go.Proofs.Ytplajidagpimdaa
