/-
  The walk of the law FrameTells.
-/
import Derived.Test.YtplajidagpimdaaHRefC
namespace Go.Proofs.Ytplajidagpimdaa
open Go.RowKit

attribute [local go_sem] eqRegs


set_option maxRecDepth 100000 in
set_option maxHeartbeats 6400000 in
theorem ftells1 {lo hi : Nat} {v1 v2 v3 : Value} {p : Prg} (f : Fra) (most c : Int) (e1 : decide (5000 < most) = true) (e2 : decide (most ≤ 65536) = false) (w : World) (h : PrgAt lo hi w v1 v2 v3 p) :
    Calls Try.prog 3 #[.agg #[v1, v2, v3], fraV f, .int .i64 most, .int .i64 c] w fun e w' => e = .returned (.bool true) ∧ Below w.heap.size w w' := by
  obtain ⟨wf, hwf⟩ : ∃ wf, wf = (w.alloc (.cells #[v1, v2, v3] 26)).alloc (.cells (fraA f) 29) := ⟨_, rfl⟩
  have hB0 : Below w.heap.size w wf := by rw [hwf]; exact below2 w _ _
  have hP : Blk wf w.heap.size 26 #[v1, v2, v3] := by rw [hwf]; exact (blk_new w _ _).alloc _
  have hF : FrAt wf (w.heap.size + 1) f := by rw [hwf]; exact blk_at (by simp)
  have hlp : Calls Try.prog 7 #[.agg #[v1, v2, v3]] wf (LongPost wf p) := long_any wf (h.later hB0)
  have hfin : ∀ W, Below w.heap.size w W → Calls Try.prog 9 #[] W fun e w' => e = .returned (.bool true) ∧ Below w.heap.size w w' := fun W hW => (alive_any W).mono fun e w' ⟨e1, e2⟩ => ⟨e1, below_next hW e2 (Nat.le_refl _)⟩
  have p0 := hP.cell (k := 0) (v := v1) rfl
  have p1 := hP.cell (k := 1) (v := v2) rfl
  have p2 := hP.cell (k := 2) (v := v3) rfl
  rw [hwf] at p0 p1 p2
  go_enter Try.func3, Try.ntmps3
  go_wp2_with fail
  rw [← hwf]
  clear hwf p0 p1 p2
  refine hlp.mono ?_
  rintro e w1 ⟨b1, rfl, hT1, hb1⟩
  have hB1 := below_next hB0 hb1 (Nat.le_refl _)
  have hP1 := hP.later hb1 hP.lt
  have hF1 := hF.later hb1 hF.lt
  clear hlp hb1 hP hB0 hF
  cases b1 with
  | true =>
    go_wp2_with (go_at_call 9; refine (hfin _ hB1).mono ?_; rintro e w2 ⟨rfl, hb⟩)
    go_ret
    exact ⟨rfl, hb⟩
  | false =>
    have tame := hT1 rfl
    clear hT1
    have hsn := sane_any w1 (h.later hB1) tame.small
    have e3 := e1
    have p0 := hP1.cell (k := 0) (v := v1) rfl
    have p1 := hP1.cell (k := 1) (v := v2) rfl
    have p2 := hP1.cell (k := 2) (v := v3) rfl
    go_wp2_with fail
    refine hsn.mono ?_
    clear hsn p0 p1 p2 e3
    rintro e w2 ⟨b2, rfl, hmay, hb2⟩
    have hBw2 := below_next hB1 hb2 (Nat.le_refl _)
    have P_w2 := hP1.later hb2 hP1.lt
    have F_w2 := hF1.later hb2 hF1.lt
    clear hP1 hF1 hB1 hb2
    cases b2 with
    | false =>
      go_wp2_with (go_at_call 9; refine (hfin _ hBw2).mono ?_; rintro e w3 ⟨rfl, hb⟩)
      go_ret
      exact ⟨rfl, hb⟩
    | true =>
      have may := hmay rfl
      clear hmay
      cases hat : atF p f with
      | none =>
        have hc : Calls Try.prog 10 #[.agg #[v1, v2, v3], fraV f] w2 fun e w' => e = .returned (.tuple #[.agg #[.int .u8 0, .int .i64 0, .int .i64 0, .int .i64 0, .int .i64 0], .bool false]) ∧ Below w2.heap.size w2 w' := by have := fat_any w2 (h.later hBw2) tame.small f; rw [hat] at this; exact this
        have Pc0 := P_w2.cell (k := 0) (v := v1) rfl
        have Pc1 := P_w2.cell (k := 1) (v := v2) rfl
        have Pc2 := P_w2.cell (k := 2) (v := v3) rfl
        obtain ⟨Fc0, Fc1, Fc2, Fc3, Fc4, Fc5, Fc6, Fc7, Fc8, Fc9⟩ := fra_cells F_w2
        go_wp2_with fail
        refine hc.mono ?_
        clear hc Pc0 Pc1 Pc2 Fc0 Fc1 Fc2 Fc3 Fc4 Fc5 Fc6 Fc7 Fc8 Fc9 
        rintro e w3 ⟨rfl, hbw3⟩
        have hBw3 := below_next hBw2 hbw3 (Nat.le_refl _)
        have P_w3 := P_w2.later hbw3 P_w2.lt
        have F_w3 := F_w2.later hbw3 F_w2.lt
        clear hbw3 hBw2 P_w2 F_w2
        obtain ⟨w4, hww4⟩ : ∃ w4, w4 = ((w3.alloc (.cells #[.int .u8 0, .int .i64 0, .int .i64 0, .int .i64 0, .int .i64 0] 33)).alloc (.cells #[.int .u8 0, .int .i64 0, .int .i64 0, .int .i64 0, .int .i64 0] 33)) := ⟨_, rfl⟩
        have hBw4 : Below w.heap.size w w4 := by rw [hww4]; exact below_next hBw3 (below2 w3 _ _) (Nat.le_refl _)
        have P_w4 : Blk w4 w.heap.size 26 #[v1, v2, v3] := by rw [hww4]; exact (P_w3.alloc _).alloc _
        have F_w4 : Blk w4 (w.heap.size + 1) 29 (fraA f) := by rw [hww4]; exact (F_w3.alloc _).alloc _
        have X_w4 : Blk w4 (w3.heap.size) 33 #[.int .u8 0, .int .i64 0, .int .i64 0, .int .i64 0, .int .i64 0] := by rw [hww4]; exact (blk_new _ _ _).alloc _
        have Y_w4 : Blk w4 (w3.heap.size + 1) 33 #[.int .u8 0, .int .i64 0, .int .i64 0, .int .i64 0, .int .i64 0] := by rw [hww4]; exact (blk_at (by simp))
        clear hBw3 P_w3 F_w3
        have hc : Calls Try.prog 11 #[.agg #[v1, v2, v3], fraV f] w4 fun e w' => e = .returned (.bool false) ∧ Below w4.heap.size w4 w' := by have := rmay_any w4 (h.later hBw4) tame.small f; rw [hat] at this; exact this
        have Pc0 := P_w4.cell (k := 0) (v := v1) rfl
        have Pc1 := P_w4.cell (k := 1) (v := v2) rfl
        have Pc2 := P_w4.cell (k := 2) (v := v3) rfl
        obtain ⟨Fc0, Fc1, Fc2, Fc3, Fc4, Fc5, Fc6, Fc7, Fc8, Fc9⟩ := fra_cells F_w4
        rw [hww4] at Pc0 Pc1 Pc2 Fc0 Fc1 Fc2 Fc3 Fc4 Fc5 Fc6 Fc7 Fc8 Fc9
        go_wp2_with fail
        rw [← hww4]
        refine hc.mono ?_
        clear hc Pc0 Pc1 Pc2 Fc0 Fc1 Fc2 Fc3 Fc4 Fc5 Fc6 Fc7 Fc8 Fc9 hww4
        rintro e w5 ⟨rfl, hbw5⟩
        have hBw5 := below_next hBw4 hbw5 (Nat.le_refl _)
        have P_w5 := P_w4.later hbw5 P_w4.lt
        have F_w5 := F_w4.later hbw5 F_w4.lt
        have X_w5 := X_w4.later hbw5 X_w4.lt
        have Y_w5 := Y_w4.later hbw5 Y_w4.lt
        clear hbw5 hBw4 P_w4 F_w4 X_w4 Y_w4
        obtain ⟨G, E, hA⟩ : ∃ G E, stepF p f = (G, E) := ⟨_, _, rfl⟩
        obtain ⟨K, N, J, hR⟩ : ∃ K N J, runT p f most = (K, N, J) := ⟨_, _, _, rfl⟩
        have HA := Lib.hid hA
        have HR := Lib.hid hR
        clear hA hR
        have hc : Calls Try.prog 13 #[.agg #[v1, v2, v3], fraV f] w5 fun e w' => e = .returned (.tuple #[fraV G, .int .i64 E]) ∧ Below w5.heap.size w5 w' := by have := step_any w5 (h.later hBw5) tame.small may f; rw [HA.out] at this; exact this
        have Pc0 := P_w5.cell (k := 0) (v := v1) rfl
        have Pc1 := P_w5.cell (k := 1) (v := v2) rfl
        have Pc2 := P_w5.cell (k := 2) (v := v3) rfl
        obtain ⟨Fc0, Fc1, Fc2, Fc3, Fc4, Fc5, Fc6, Fc7, Fc8, Fc9⟩ := fra_cells F_w5
        go_wp2_with fail
        refine hc.mono ?_
        clear hc Pc0 Pc1 Pc2 Fc0 Fc1 Fc2 Fc3 Fc4 Fc5 Fc6 Fc7 Fc8 Fc9 
        rintro e w8 ⟨rfl, hbw8⟩
        have hBw8 := below_next hBw5 hbw8 (Nat.le_refl _)
        have P_w8 := P_w5.later hbw8 P_w5.lt
        have F_w8 := F_w5.later hbw8 F_w5.lt
        have X_w8 := X_w5.later hbw8 X_w5.lt
        have Y_w8 := Y_w5.later hbw8 Y_w5.lt
        clear hbw8 hBw5 P_w5 F_w5 X_w5 Y_w5
        obtain ⟨w9, hww9⟩ : ∃ w9, w9 = (w8.alloc (.cells (fraA G) 29)) := ⟨_, rfl⟩
        have hBw9 : Below w.heap.size w w9 := by rw [hww9]; exact hBw8.alloc hBw8.size _
        have P_w9 : Blk w9 w.heap.size 26 #[v1, v2, v3] := by rw [hww9]; exact P_w8.alloc _
        have F_w9 : Blk w9 (w.heap.size + 1) 29 (fraA f) := by rw [hww9]; exact F_w8.alloc _
        have X_w9 : Blk w9 (w3.heap.size) 33 #[.int .u8 0, .int .i64 0, .int .i64 0, .int .i64 0, .int .i64 0] := by rw [hww9]; exact X_w8.alloc _
        have Y_w9 : Blk w9 (w3.heap.size + 1) 33 #[.int .u8 0, .int .i64 0, .int .i64 0, .int .i64 0, .int .i64 0] := by rw [hww9]; exact Y_w8.alloc _
        have C_w9 : Blk w9 w8.heap.size 29 (fraA G) := by rw [hww9]; exact blk_new w8 _ _
        clear hBw8 P_w8 F_w8 X_w8 Y_w8
        have hc : Calls Try.prog 14 #[.agg #[v1, v2, v3], fraV f] w9 fun e w' => e = .returned (.tuple #[fraV G, .int .i64 E]) ∧ Below w9.heap.size w9 w' := by have := rstep_any w9 (h.later hBw9) tame.small may f; rw [HA.out] at this; exact this
        have Pc0 := P_w9.cell (k := 0) (v := v1) rfl
        have Pc1 := P_w9.cell (k := 1) (v := v2) rfl
        have Pc2 := P_w9.cell (k := 2) (v := v3) rfl
        obtain ⟨Fc0, Fc1, Fc2, Fc3, Fc4, Fc5, Fc6, Fc7, Fc8, Fc9⟩ := fra_cells F_w9
        rw [hww9] at Pc0 Pc1 Pc2 Fc0 Fc1 Fc2 Fc3 Fc4 Fc5 Fc6 Fc7 Fc8 Fc9
        go_wp2_with fail
        rw [← hww9]
        refine hc.mono ?_
        clear hc Pc0 Pc1 Pc2 Fc0 Fc1 Fc2 Fc3 Fc4 Fc5 Fc6 Fc7 Fc8 Fc9 hww9
        rintro e w10 ⟨rfl, hbw10⟩
        have hBw10 := below_next hBw9 hbw10 (Nat.le_refl _)
        have P_w10 := P_w9.later hbw10 P_w9.lt
        have F_w10 := F_w9.later hbw10 F_w9.lt
        have X_w10 := X_w9.later hbw10 X_w9.lt
        have Y_w10 := Y_w9.later hbw10 Y_w9.lt
        have C_w10 := C_w9.later hbw10 C_w9.lt
        clear hbw10 hBw9 P_w9 F_w9 X_w9 Y_w9 C_w9
        obtain ⟨w11, hww11⟩ : ∃ w11, w11 = (w10.alloc (.cells (fraA G) 29)) := ⟨_, rfl⟩
        have hBw11 : Below w.heap.size w w11 := by rw [hww11]; exact hBw10.alloc hBw10.size _
        have P_w11 : Blk w11 w.heap.size 26 #[v1, v2, v3] := by rw [hww11]; exact P_w10.alloc _
        have F_w11 : Blk w11 (w.heap.size + 1) 29 (fraA f) := by rw [hww11]; exact F_w10.alloc _
        have X_w11 : Blk w11 (w3.heap.size) 33 #[.int .u8 0, .int .i64 0, .int .i64 0, .int .i64 0, .int .i64 0] := by rw [hww11]; exact X_w10.alloc _
        have Y_w11 : Blk w11 (w3.heap.size + 1) 33 #[.int .u8 0, .int .i64 0, .int .i64 0, .int .i64 0, .int .i64 0] := by rw [hww11]; exact Y_w10.alloc _
        have C_w11 : Blk w11 w8.heap.size 29 (fraA G) := by rw [hww11]; exact C_w10.alloc _
        have D_w11 : Blk w11 w10.heap.size 29 (fraA G) := by rw [hww11]; exact blk_new w10 _ _
        clear hBw10 P_w10 F_w10 X_w10 Y_w10 C_w10
        have hc : Calls Try.prog 15 #[.agg #[v1, v2, v3], fraV f, .int .i64 most] w11 fun e w' => e = .returned (.tuple #[fraV K, .int .i64 N, .int .i64 J]) ∧ Below w11.heap.size w11 w' := by have := run_any w11 (h.later hBw11) tame.small may f most; rw [HR.out] at this; exact this
        have Pc0 := P_w11.cell (k := 0) (v := v1) rfl
        have Pc1 := P_w11.cell (k := 1) (v := v2) rfl
        have Pc2 := P_w11.cell (k := 2) (v := v3) rfl
        obtain ⟨Fc0, Fc1, Fc2, Fc3, Fc4, Fc5, Fc6, Fc7, Fc8, Fc9⟩ := fra_cells F_w11
        rw [hww11] at Pc0 Pc1 Pc2 Fc0 Fc1 Fc2 Fc3 Fc4 Fc5 Fc6 Fc7 Fc8 Fc9
        go_wp2_with fail
        rw [← hww11]
        refine hc.mono ?_
        clear hc Pc0 Pc1 Pc2 Fc0 Fc1 Fc2 Fc3 Fc4 Fc5 Fc6 Fc7 Fc8 Fc9 hww11
        rintro e w12 ⟨rfl, hbw12⟩
        have hBw12 := below_next hBw11 hbw12 (Nat.le_refl _)
        have P_w12 := P_w11.later hbw12 P_w11.lt
        have F_w12 := F_w11.later hbw12 F_w11.lt
        have X_w12 := X_w11.later hbw12 X_w11.lt
        have Y_w12 := Y_w11.later hbw12 Y_w11.lt
        have C_w12 := C_w11.later hbw12 C_w11.lt
        have D_w12 := D_w11.later hbw12 D_w11.lt
        clear hbw12 hBw11 P_w11 F_w11 X_w11 Y_w11 C_w11 D_w11
        obtain ⟨w13, hww13⟩ : ∃ w13, w13 = (w12.alloc (.cells (fraA K) 29)) := ⟨_, rfl⟩
        have hBw13 : Below w.heap.size w w13 := by rw [hww13]; exact hBw12.alloc hBw12.size _
        have P_w13 : Blk w13 w.heap.size 26 #[v1, v2, v3] := by rw [hww13]; exact P_w12.alloc _
        have F_w13 : Blk w13 (w.heap.size + 1) 29 (fraA f) := by rw [hww13]; exact F_w12.alloc _
        have X_w13 : Blk w13 (w3.heap.size) 33 #[.int .u8 0, .int .i64 0, .int .i64 0, .int .i64 0, .int .i64 0] := by rw [hww13]; exact X_w12.alloc _
        have Y_w13 : Blk w13 (w3.heap.size + 1) 33 #[.int .u8 0, .int .i64 0, .int .i64 0, .int .i64 0, .int .i64 0] := by rw [hww13]; exact Y_w12.alloc _
        have C_w13 : Blk w13 w8.heap.size 29 (fraA G) := by rw [hww13]; exact C_w12.alloc _
        have D_w13 : Blk w13 w10.heap.size 29 (fraA G) := by rw [hww13]; exact D_w12.alloc _
        have Q_w13 : Blk w13 w12.heap.size 29 (fraA K) := by rw [hww13]; exact blk_new w12 _ _
        clear hBw12 P_w12 F_w12 X_w12 Y_w12 C_w12 D_w12
        have hc : Calls Try.prog 16 #[.agg #[v1, v2, v3], fraV f, .int .i64 most] w13 fun e w' => e = .returned (.tuple #[fraV K, .int .i64 N, .int .i64 J]) ∧ Below w13.heap.size w13 w' := by have := rrun_any w13 (h.later hBw13) tame.small may f most; rw [HR.out] at this; exact this
        have Pc0 := P_w13.cell (k := 0) (v := v1) rfl
        have Pc1 := P_w13.cell (k := 1) (v := v2) rfl
        have Pc2 := P_w13.cell (k := 2) (v := v3) rfl
        obtain ⟨Fc0, Fc1, Fc2, Fc3, Fc4, Fc5, Fc6, Fc7, Fc8, Fc9⟩ := fra_cells F_w13
        rw [hww13] at Pc0 Pc1 Pc2 Fc0 Fc1 Fc2 Fc3 Fc4 Fc5 Fc6 Fc7 Fc8 Fc9
        go_wp2_with fail
        rw [← hww13]
        refine hc.mono ?_
        clear hc Pc0 Pc1 Pc2 Fc0 Fc1 Fc2 Fc3 Fc4 Fc5 Fc6 Fc7 Fc8 Fc9 hww13
        rintro e w14 ⟨rfl, hbw14⟩
        have hBw14 := below_next hBw13 hbw14 (Nat.le_refl _)
        have P_w14 := P_w13.later hbw14 P_w13.lt
        have F_w14 := F_w13.later hbw14 F_w13.lt
        have X_w14 := X_w13.later hbw14 X_w13.lt
        have Y_w14 := Y_w13.later hbw14 Y_w13.lt
        have C_w14 := C_w13.later hbw14 C_w13.lt
        have D_w14 := D_w13.later hbw14 D_w13.lt
        have Q_w14 := Q_w13.later hbw14 Q_w13.lt
        clear hbw14 hBw13 P_w13 F_w13 X_w13 Y_w13 C_w13 D_w13 Q_w13
        obtain ⟨w15, hww15⟩ : ∃ w15, w15 = (w14.alloc (.cells (fraA K) 29)) := ⟨_, rfl⟩
        have hBw15 : Below w.heap.size w w15 := by rw [hww15]; exact hBw14.alloc hBw14.size _
        have P_w15 : Blk w15 w.heap.size 26 #[v1, v2, v3] := by rw [hww15]; exact P_w14.alloc _
        have F_w15 : Blk w15 (w.heap.size + 1) 29 (fraA f) := by rw [hww15]; exact F_w14.alloc _
        have X_w15 : Blk w15 (w3.heap.size) 33 #[.int .u8 0, .int .i64 0, .int .i64 0, .int .i64 0, .int .i64 0] := by rw [hww15]; exact X_w14.alloc _
        have Y_w15 : Blk w15 (w3.heap.size + 1) 33 #[.int .u8 0, .int .i64 0, .int .i64 0, .int .i64 0, .int .i64 0] := by rw [hww15]; exact Y_w14.alloc _
        have C_w15 : Blk w15 w8.heap.size 29 (fraA G) := by rw [hww15]; exact C_w14.alloc _
        have D_w15 : Blk w15 w10.heap.size 29 (fraA G) := by rw [hww15]; exact D_w14.alloc _
        have Q_w15 : Blk w15 w12.heap.size 29 (fraA K) := by rw [hww15]; exact Q_w14.alloc _
        have R_w15 : Blk w15 w14.heap.size 29 (fraA K) := by rw [hww15]; exact blk_new w14 _ _
        clear hBw14 P_w14 F_w14 X_w14 Y_w14 C_w14 D_w14 Q_w14
        have hSS : ∀ w', Below w15.heap.size w15 w' → w'.cell? ⟨w.heap.size, 0, none⟩ = some (v1) ∧ w'.cell? ⟨w.heap.size, 1, none⟩ = some (v2) ∧ w'.cell? ⟨w.heap.size, 2, none⟩ = some (v3) ∧ w'.cell? ⟨(w.heap.size + 1), 0, none⟩ = some (.int .i64 f.c) ∧ w'.cell? ⟨(w.heap.size + 1), 1, none⟩ = some (.int .i64 f.p) ∧ w'.cell? ⟨(w.heap.size + 1), 2, none⟩ = some (.int .i64 f.r0) ∧ w'.cell? ⟨(w.heap.size + 1), 3, none⟩ = some (.int .i64 f.r1) ∧ w'.cell? ⟨(w.heap.size + 1), 4, none⟩ = some (.int .i64 f.r2) ∧ w'.cell? ⟨(w.heap.size + 1), 5, none⟩ = some (.int .i64 f.r3) ∧ w'.cell? ⟨(w.heap.size + 1), 6, none⟩ = some (.int .i64 f.r4) ∧ w'.cell? ⟨(w.heap.size + 1), 7, none⟩ = some (.int .i64 f.r5) ∧ w'.cell? ⟨(w.heap.size + 1), 8, none⟩ = some (.int .i64 f.r6) ∧ w'.cell? ⟨(w.heap.size + 1), 9, none⟩ = some (.int .i64 f.r7) ∧ w'.cell? ⟨(w3.heap.size), 0, none⟩ = some (.int .u8 0) ∧ w'.cell? ⟨(w3.heap.size), 1, none⟩ = some (.int .i64 0) ∧ w'.cell? ⟨(w3.heap.size), 2, none⟩ = some (.int .i64 0) ∧ w'.cell? ⟨(w3.heap.size), 3, none⟩ = some (.int .i64 0) ∧ w'.cell? ⟨(w3.heap.size), 4, none⟩ = some (.int .i64 0) ∧ w'.cell? ⟨(w3.heap.size + 1), 0, none⟩ = some (.int .u8 0) ∧ w'.cell? ⟨(w3.heap.size + 1), 1, none⟩ = some (.int .i64 0) ∧ w'.cell? ⟨(w3.heap.size + 1), 2, none⟩ = some (.int .i64 0) ∧ w'.cell? ⟨(w3.heap.size + 1), 3, none⟩ = some (.int .i64 0) ∧ w'.cell? ⟨(w3.heap.size + 1), 4, none⟩ = some (.int .i64 0) ∧ w'.cell? ⟨w8.heap.size, 0, none⟩ = some (.int .i64 G.c) ∧ w'.cell? ⟨w8.heap.size, 1, none⟩ = some (.int .i64 G.p) ∧ w'.cell? ⟨w8.heap.size, 2, none⟩ = some (.int .i64 G.r0) ∧ w'.cell? ⟨w8.heap.size, 3, none⟩ = some (.int .i64 G.r1) ∧ w'.cell? ⟨w8.heap.size, 4, none⟩ = some (.int .i64 G.r2) ∧ w'.cell? ⟨w8.heap.size, 5, none⟩ = some (.int .i64 G.r3) ∧ w'.cell? ⟨w8.heap.size, 6, none⟩ = some (.int .i64 G.r4) ∧ w'.cell? ⟨w8.heap.size, 7, none⟩ = some (.int .i64 G.r5) ∧ w'.cell? ⟨w8.heap.size, 8, none⟩ = some (.int .i64 G.r6) ∧ w'.cell? ⟨w8.heap.size, 9, none⟩ = some (.int .i64 G.r7) ∧ w'.cell? ⟨w10.heap.size, 0, none⟩ = some (.int .i64 G.c) ∧ w'.cell? ⟨w10.heap.size, 1, none⟩ = some (.int .i64 G.p) ∧ w'.cell? ⟨w10.heap.size, 2, none⟩ = some (.int .i64 G.r0) ∧ w'.cell? ⟨w10.heap.size, 3, none⟩ = some (.int .i64 G.r1) ∧ w'.cell? ⟨w10.heap.size, 4, none⟩ = some (.int .i64 G.r2) ∧ w'.cell? ⟨w10.heap.size, 5, none⟩ = some (.int .i64 G.r3) ∧ w'.cell? ⟨w10.heap.size, 6, none⟩ = some (.int .i64 G.r4) ∧ w'.cell? ⟨w10.heap.size, 7, none⟩ = some (.int .i64 G.r5) ∧ w'.cell? ⟨w10.heap.size, 8, none⟩ = some (.int .i64 G.r6) ∧ w'.cell? ⟨w10.heap.size, 9, none⟩ = some (.int .i64 G.r7) ∧ w'.cell? ⟨w12.heap.size, 0, none⟩ = some (.int .i64 K.c) ∧ w'.cell? ⟨w12.heap.size, 1, none⟩ = some (.int .i64 K.p) ∧ w'.cell? ⟨w12.heap.size, 2, none⟩ = some (.int .i64 K.r0) ∧ w'.cell? ⟨w12.heap.size, 3, none⟩ = some (.int .i64 K.r1) ∧ w'.cell? ⟨w12.heap.size, 4, none⟩ = some (.int .i64 K.r2) ∧ w'.cell? ⟨w12.heap.size, 5, none⟩ = some (.int .i64 K.r3) ∧ w'.cell? ⟨w12.heap.size, 6, none⟩ = some (.int .i64 K.r4) ∧ w'.cell? ⟨w12.heap.size, 7, none⟩ = some (.int .i64 K.r5) ∧ w'.cell? ⟨w12.heap.size, 8, none⟩ = some (.int .i64 K.r6) ∧ w'.cell? ⟨w12.heap.size, 9, none⟩ = some (.int .i64 K.r7) ∧ w'.cell? ⟨w14.heap.size, 0, none⟩ = some (.int .i64 K.c) ∧ w'.cell? ⟨w14.heap.size, 1, none⟩ = some (.int .i64 K.p) ∧ w'.cell? ⟨w14.heap.size, 2, none⟩ = some (.int .i64 K.r0) ∧ w'.cell? ⟨w14.heap.size, 3, none⟩ = some (.int .i64 K.r1) ∧ w'.cell? ⟨w14.heap.size, 4, none⟩ = some (.int .i64 K.r2) ∧ w'.cell? ⟨w14.heap.size, 5, none⟩ = some (.int .i64 K.r3) ∧ w'.cell? ⟨w14.heap.size, 6, none⟩ = some (.int .i64 K.r4) ∧ w'.cell? ⟨w14.heap.size, 7, none⟩ = some (.int .i64 K.r5) ∧ w'.cell? ⟨w14.heap.size, 8, none⟩ = some (.int .i64 K.r6) ∧ w'.cell? ⟨w14.heap.size, 9, none⟩ = some (.int .i64 K.r7) ∧ Below w15.heap.size w15 w' := fun W hW => by
          have P_W := P_w15.later hW P_w15.lt
          have F_W := F_w15.later hW F_w15.lt
          have X_W := X_w15.later hW X_w15.lt
          have Y_W := Y_w15.later hW Y_w15.lt
          have C_W := C_w15.later hW C_w15.lt
          have D_W := D_w15.later hW D_w15.lt
          have Q_W := Q_w15.later hW Q_w15.lt
          have R_W := R_w15.later hW R_w15.lt
          exact ⟨P_W.cell rfl, P_W.cell rfl, P_W.cell rfl, F_W.cell rfl, F_W.cell rfl, F_W.cell rfl, F_W.cell rfl, F_W.cell rfl, F_W.cell rfl, F_W.cell rfl, F_W.cell rfl, F_W.cell rfl, F_W.cell rfl, X_W.cell rfl, X_W.cell rfl, X_W.cell rfl, X_W.cell rfl, X_W.cell rfl, Y_W.cell rfl, Y_W.cell rfl, Y_W.cell rfl, Y_W.cell rfl, Y_W.cell rfl, C_W.cell rfl, C_W.cell rfl, C_W.cell rfl, C_W.cell rfl, C_W.cell rfl, C_W.cell rfl, C_W.cell rfl, C_W.cell rfl, C_W.cell rfl, C_W.cell rfl, D_W.cell rfl, D_W.cell rfl, D_W.cell rfl, D_W.cell rfl, D_W.cell rfl, D_W.cell rfl, D_W.cell rfl, D_W.cell rfl, D_W.cell rfl, D_W.cell rfl, Q_W.cell rfl, Q_W.cell rfl, Q_W.cell rfl, Q_W.cell rfl, Q_W.cell rfl, Q_W.cell rfl, Q_W.cell rfl, Q_W.cell rfl, Q_W.cell rfl, Q_W.cell rfl, R_W.cell rfl, R_W.cell rfl, R_W.cell rfl, R_W.cell rfl, R_W.cell rfl, R_W.cell rfl, R_W.cell rfl, R_W.cell rfl, R_W.cell rfl, R_W.cell rfl, hW⟩
        have cCheck : ∀ W, Below w15.heap.size w15 W → Calls Try.prog 17 #[.agg #[v1, v2, v3], fraV f] W fun e w' => e = .returned (.int .i64 2) ∧ Below w15.heap.size w15 w' := fun W hW => by
          have := fcheck_any W (h.later (below_next hBw15 hW (Nat.le_refl _))) tame.small f
          rw [hat] at this
          exact this.mono fun e w' ⟨h1, h2⟩ => ⟨h1, below_next hW h2 (Nat.le_refl _)⟩
        have cMay : ∀ W, Below w15.heap.size w15 W → Calls Try.prog 11 #[.agg #[v1, v2, v3], fraV f] W fun e w' => e = .returned (.bool false) ∧ Below w15.heap.size w15 w' := fun W hW => by
          have := rmay_any W (h.later (below_next hBw15 hW (Nat.le_refl _))) tame.small f
          rw [hat] at this
          exact this.mono fun e w' ⟨h1, h2⟩ => ⟨h1, below_next hW h2 (Nat.le_refl _)⟩
        have cBeg : ∀ W, Below w15.heap.size w15 W → Calls Try.prog 18 #[.int .i64 c] W fun e w' => e = .returned (.agg #[.int .i64 c, .int .i64 0, .int .i64 0, .int .i64 0, .int .i64 0, .int .i64 0, .int .i64 0, .int .i64 0, .int .i64 0, .int .i64 0]) ∧ Below w15.heap.size w15 w' := fun W hW => by
          have := begin_any c W
          exact this.mono fun e w' ⟨h1, h2⟩ => ⟨h1, below_next hW h2 (Nat.le_refl _)⟩
        have cSpa : ∀ W, Below w15.heap.size w15 W → Calls Try.prog 19 #[fraV f, .int .i64 c] W fun e w' => e = .returned (.agg #[.int .i64 c, .int .i64 0, .int .i64 f.r0, .int .i64 f.r1, .int .i64 f.r2, .int .i64 f.r3, .int .i64 f.r4, .int .i64 f.r5, .int .i64 f.r6, .int .i64 f.r7]) ∧ Below w15.heap.size w15 w' := fun W hW => by
          have := spawn_any f c W
          exact this.mono fun e w' ⟨h1, h2⟩ => ⟨h1, below_next hW h2 (Nat.le_refl _)⟩
        have cAli : ∀ W, Below w15.heap.size w15 W → Calls Try.prog 9 #[] W fun e w' => e = .returned (.bool true) ∧ Below w15.heap.size w15 w' := fun W hW => by
          have := alive_any W
          exact this.mono fun e w' ⟨h1, h2⟩ => ⟨h1, below_next hW h2 (Nat.le_refl _)⟩
        clear P_w15 F_w15 X_w15 Y_w15 C_w15 D_w15 Q_w15 R_w15
        go_wp2_with fail
        rw [← hww15]
        clear hww15
        simp only [List.append_eq, List.cons_append, List.nil_append]
        go_region_held3 (fun w' => w'.cell? ⟨w.heap.size, 0, none⟩ = some (v1) ∧ w'.cell? ⟨w.heap.size, 1, none⟩ = some (v2) ∧ w'.cell? ⟨w.heap.size, 2, none⟩ = some (v3) ∧ w'.cell? ⟨(w.heap.size + 1), 0, none⟩ = some (.int .i64 f.c) ∧ w'.cell? ⟨(w.heap.size + 1), 1, none⟩ = some (.int .i64 f.p) ∧ w'.cell? ⟨(w.heap.size + 1), 2, none⟩ = some (.int .i64 f.r0) ∧ w'.cell? ⟨(w.heap.size + 1), 3, none⟩ = some (.int .i64 f.r1) ∧ w'.cell? ⟨(w.heap.size + 1), 4, none⟩ = some (.int .i64 f.r2) ∧ w'.cell? ⟨(w.heap.size + 1), 5, none⟩ = some (.int .i64 f.r3) ∧ w'.cell? ⟨(w.heap.size + 1), 6, none⟩ = some (.int .i64 f.r4) ∧ w'.cell? ⟨(w.heap.size + 1), 7, none⟩ = some (.int .i64 f.r5) ∧ w'.cell? ⟨(w.heap.size + 1), 8, none⟩ = some (.int .i64 f.r6) ∧ w'.cell? ⟨(w.heap.size + 1), 9, none⟩ = some (.int .i64 f.r7) ∧ w'.cell? ⟨(w3.heap.size), 0, none⟩ = some (.int .u8 0) ∧ w'.cell? ⟨(w3.heap.size), 1, none⟩ = some (.int .i64 0) ∧ w'.cell? ⟨(w3.heap.size), 2, none⟩ = some (.int .i64 0) ∧ w'.cell? ⟨(w3.heap.size), 3, none⟩ = some (.int .i64 0) ∧ w'.cell? ⟨(w3.heap.size), 4, none⟩ = some (.int .i64 0) ∧ w'.cell? ⟨(w3.heap.size + 1), 0, none⟩ = some (.int .u8 0) ∧ w'.cell? ⟨(w3.heap.size + 1), 1, none⟩ = some (.int .i64 0) ∧ w'.cell? ⟨(w3.heap.size + 1), 2, none⟩ = some (.int .i64 0) ∧ w'.cell? ⟨(w3.heap.size + 1), 3, none⟩ = some (.int .i64 0) ∧ w'.cell? ⟨(w3.heap.size + 1), 4, none⟩ = some (.int .i64 0) ∧ w'.cell? ⟨w8.heap.size, 0, none⟩ = some (.int .i64 G.c) ∧ w'.cell? ⟨w8.heap.size, 1, none⟩ = some (.int .i64 G.p) ∧ w'.cell? ⟨w8.heap.size, 2, none⟩ = some (.int .i64 G.r0) ∧ w'.cell? ⟨w8.heap.size, 3, none⟩ = some (.int .i64 G.r1) ∧ w'.cell? ⟨w8.heap.size, 4, none⟩ = some (.int .i64 G.r2) ∧ w'.cell? ⟨w8.heap.size, 5, none⟩ = some (.int .i64 G.r3) ∧ w'.cell? ⟨w8.heap.size, 6, none⟩ = some (.int .i64 G.r4) ∧ w'.cell? ⟨w8.heap.size, 7, none⟩ = some (.int .i64 G.r5) ∧ w'.cell? ⟨w8.heap.size, 8, none⟩ = some (.int .i64 G.r6) ∧ w'.cell? ⟨w8.heap.size, 9, none⟩ = some (.int .i64 G.r7) ∧ w'.cell? ⟨w10.heap.size, 0, none⟩ = some (.int .i64 G.c) ∧ w'.cell? ⟨w10.heap.size, 1, none⟩ = some (.int .i64 G.p) ∧ w'.cell? ⟨w10.heap.size, 2, none⟩ = some (.int .i64 G.r0) ∧ w'.cell? ⟨w10.heap.size, 3, none⟩ = some (.int .i64 G.r1) ∧ w'.cell? ⟨w10.heap.size, 4, none⟩ = some (.int .i64 G.r2) ∧ w'.cell? ⟨w10.heap.size, 5, none⟩ = some (.int .i64 G.r3) ∧ w'.cell? ⟨w10.heap.size, 6, none⟩ = some (.int .i64 G.r4) ∧ w'.cell? ⟨w10.heap.size, 7, none⟩ = some (.int .i64 G.r5) ∧ w'.cell? ⟨w10.heap.size, 8, none⟩ = some (.int .i64 G.r6) ∧ w'.cell? ⟨w10.heap.size, 9, none⟩ = some (.int .i64 G.r7) ∧ w'.cell? ⟨w12.heap.size, 0, none⟩ = some (.int .i64 K.c) ∧ w'.cell? ⟨w12.heap.size, 1, none⟩ = some (.int .i64 K.p) ∧ w'.cell? ⟨w12.heap.size, 2, none⟩ = some (.int .i64 K.r0) ∧ w'.cell? ⟨w12.heap.size, 3, none⟩ = some (.int .i64 K.r1) ∧ w'.cell? ⟨w12.heap.size, 4, none⟩ = some (.int .i64 K.r2) ∧ w'.cell? ⟨w12.heap.size, 5, none⟩ = some (.int .i64 K.r3) ∧ w'.cell? ⟨w12.heap.size, 6, none⟩ = some (.int .i64 K.r4) ∧ w'.cell? ⟨w12.heap.size, 7, none⟩ = some (.int .i64 K.r5) ∧ w'.cell? ⟨w12.heap.size, 8, none⟩ = some (.int .i64 K.r6) ∧ w'.cell? ⟨w12.heap.size, 9, none⟩ = some (.int .i64 K.r7) ∧ w'.cell? ⟨w14.heap.size, 0, none⟩ = some (.int .i64 K.c) ∧ w'.cell? ⟨w14.heap.size, 1, none⟩ = some (.int .i64 K.p) ∧ w'.cell? ⟨w14.heap.size, 2, none⟩ = some (.int .i64 K.r0) ∧ w'.cell? ⟨w14.heap.size, 3, none⟩ = some (.int .i64 K.r1) ∧ w'.cell? ⟨w14.heap.size, 4, none⟩ = some (.int .i64 K.r2) ∧ w'.cell? ⟨w14.heap.size, 5, none⟩ = some (.int .i64 K.r3) ∧ w'.cell? ⟨w14.heap.size, 6, none⟩ = some (.int .i64 K.r4) ∧ w'.cell? ⟨w14.heap.size, 7, none⟩ = some (.int .i64 K.r5) ∧ w'.cell? ⟨w14.heap.size, 8, none⟩ = some (.int .i64 K.r6) ∧ w'.cell? ⟨w14.heap.size, 9, none⟩ = some (.int .i64 K.r7) ∧ Below w15.heap.size w15 w') (refine hSS _ ?_ <;> with_reducible first | exact hb | exact drew_below _) ((first | (go_at_call 17; refine (cCheck _ (by with_reducible first | exact hb | exact drew_below _)).mono ?_; (try clear hb); rintro e wn ⟨rfl, hb⟩) | (go_at_call 11; refine (cMay _ (by with_reducible first | exact hb | exact drew_below _)).mono ?_; (try clear hb); rintro e wn ⟨rfl, hb⟩) | (go_at_call 18; refine (cBeg _ (by with_reducible first | exact hb | exact drew_below _)).mono ?_; (try clear hb); rintro e wn ⟨rfl, hb⟩) | (go_at_call 19; refine (cSpa _ (by with_reducible first | exact hb | exact drew_below _)).mono ?_; (try clear hb); rintro e wn ⟨rfl, hb⟩) | (go_at_call 9; refine (cAli _ (by with_reducible first | exact hb | exact drew_below _)).mono ?_; (try clear hb); rintro e wn ⟨rfl, hb⟩)))
        all_goals go_wp2_with fail
        all_goals go_ret
        all_goals exact ⟨rfl, below_next hBw15 hb (Nat.le_refl _)⟩
      | some x =>
        have hc : Calls Try.prog 10 #[.agg #[v1, v2, v3], fraV f] w2 fun e w' => e = .returned (.tuple #[.agg #[.int .u8 (x.o : Int), .int .i64 x.a, .int .i64 x.b, .int .i64 x.c, .int .i64 x.k], .bool true]) ∧ Below w2.heap.size w2 w' := by have := fat_any w2 (h.later hBw2) tame.small f; rw [hat] at this; exact this
        have Pc0 := P_w2.cell (k := 0) (v := v1) rfl
        have Pc1 := P_w2.cell (k := 1) (v := v2) rfl
        have Pc2 := P_w2.cell (k := 2) (v := v3) rfl
        obtain ⟨Fc0, Fc1, Fc2, Fc3, Fc4, Fc5, Fc6, Fc7, Fc8, Fc9⟩ := fra_cells F_w2
        go_wp2_with fail
        refine hc.mono ?_
        clear hc Pc0 Pc1 Pc2 Fc0 Fc1 Fc2 Fc3 Fc4 Fc5 Fc6 Fc7 Fc8 Fc9 
        rintro e w3 ⟨rfl, hbw3⟩
        have hBw3 := below_next hBw2 hbw3 (Nat.le_refl _)
        have P_w3 := P_w2.later hbw3 P_w2.lt
        have F_w3 := F_w2.later hbw3 F_w2.lt
        clear hbw3 hBw2 P_w2 F_w2
        have hsz3 : w.heap.size + 1 < w3.heap.size := F_w3.lt
        obtain ⟨w4, hww4⟩ : ∃ w4, w4 = ((w3.alloc (.cells #[.int .u8 (x.o : Int), .int .i64 x.a, .int .i64 x.b, .int .i64 x.c, .int .i64 x.k] 33)).alloc (.cells #[.int .u8 0, .int .i64 0, .int .i64 0, .int .i64 0, .int .i64 0] 33)) := ⟨_, rfl⟩
        have hBw4 : Below w.heap.size w w4 := by rw [hww4]; exact below_next hBw3 (below2 w3 _ _) (Nat.le_refl _)
        have P_w4 : Blk w4 w.heap.size 26 #[v1, v2, v3] := by rw [hww4]; exact (P_w3.alloc _).alloc _
        have F_w4 : Blk w4 (w.heap.size + 1) 29 (fraA f) := by rw [hww4]; exact (F_w3.alloc _).alloc _
        have X_w4 : Blk w4 (w3.heap.size) 33 #[.int .u8 (x.o : Int), .int .i64 x.a, .int .i64 x.b, .int .i64 x.c, .int .i64 x.k] := by rw [hww4]; exact (blk_new _ _ _).alloc _
        have Y_w4 : Blk w4 (w3.heap.size + 1) 33 #[.int .u8 0, .int .i64 0, .int .i64 0, .int .i64 0, .int .i64 0] := by rw [hww4]; exact (blk_at (by simp))
        clear hBw3 P_w3 F_w3
        have hc : Calls Try.prog 11 #[.agg #[v1, v2, v3], fraV f] w4 fun e w' => e = .returned (.bool true) ∧ Below w4.heap.size w4 w' := by have := rmay_any w4 (h.later hBw4) tame.small f; rw [hat] at this; exact this
        have Pc0 := P_w4.cell (k := 0) (v := v1) rfl
        have Pc1 := P_w4.cell (k := 1) (v := v2) rfl
        have Pc2 := P_w4.cell (k := 2) (v := v3) rfl
        obtain ⟨Fc0, Fc1, Fc2, Fc3, Fc4, Fc5, Fc6, Fc7, Fc8, Fc9⟩ := fra_cells F_w4
        rw [hww4] at Pc0 Pc1 Pc2 Fc0 Fc1 Fc2 Fc3 Fc4 Fc5 Fc6 Fc7 Fc8 Fc9
        go_wp2_with fail
        rw [← hww4]
        refine hc.mono ?_
        clear hc Pc0 Pc1 Pc2 Fc0 Fc1 Fc2 Fc3 Fc4 Fc5 Fc6 Fc7 Fc8 Fc9 hww4
        rintro e w5 ⟨rfl, hbw5⟩
        have hBw5 := below_next hBw4 hbw5 (Nat.le_refl _)
        have P_w5 := P_w4.later hbw5 P_w4.lt
        have F_w5 := F_w4.later hbw5 F_w4.lt
        have X_w5 := X_w4.later hbw5 X_w4.lt
        have Y_w5 := Y_w4.later hbw5 Y_w4.lt
        clear hbw5 hBw4 P_w4 F_w4 X_w4 Y_w4
        have hc : Calls Try.prog 12 #[.agg #[v1, v2, v3], fraV f] w5 fun e w' => e = .returned (.agg #[.int .u8 (x.o : Int), .int .i64 x.a, .int .i64 x.b, .int .i64 x.c, .int .i64 x.k]) ∧ Below w5.heap.size w5 w' := rat_any w5 (h.later hBw5) f hat
        have Pc0 := P_w5.cell (k := 0) (v := v1) rfl
        have Pc1 := P_w5.cell (k := 1) (v := v2) rfl
        have Pc2 := P_w5.cell (k := 2) (v := v3) rfl
        obtain ⟨Fc0, Fc1, Fc2, Fc3, Fc4, Fc5, Fc6, Fc7, Fc8, Fc9⟩ := fra_cells F_w5
        go_wp2_with fail
        refine hc.mono ?_
        clear hc Pc0 Pc1 Pc2 Fc0 Fc1 Fc2 Fc3 Fc4 Fc5 Fc6 Fc7 Fc8 Fc9 
        rintro e w6 ⟨rfl, hbw6⟩
        have hBw6 := below_next hBw5 hbw6 (Nat.le_refl _)
        have P_w6 := P_w5.later hbw6 P_w5.lt
        have F_w6 := F_w5.later hbw6 F_w5.lt
        have X_w6 := X_w5.later hbw6 X_w5.lt
        have Y_w6 := Y_w5.later hbw6 Y_w5.lt
        clear hbw6 hBw5 P_w5 F_w5 X_w5 Y_w5
        obtain ⟨w7, hww7, Y_w7, hbt⟩ : ∃ w7, w7 = (((((w6.setCell ⟨(w3.heap.size + 1), 0, none⟩ (.int .u8 (x.o : Int))).setCell ⟨(w3.heap.size + 1), 1, none⟩ (.int .i64 x.a)).setCell ⟨(w3.heap.size + 1), 2, none⟩ (.int .i64 x.b)).setCell ⟨(w3.heap.size + 1), 3, none⟩ (.int .i64 x.c)).setCell ⟨(w3.heap.size + 1), 4, none⟩ (.int .i64 x.k)) ∧ Blk w7 (w3.heap.size + 1) 33 #[.int .u8 (x.o : Int), .int .i64 x.a, .int .i64 x.b, .int .i64 x.c, .int .i64 x.k] ∧ But [(w3.heap.size + 1)] w6 w7 := ⟨_, rfl, sto5 Y_w6 (.int .u8 (x.o : Int)) (.int .i64 x.a) (.int .i64 x.b) (.int .i64 x.c) (.int .i64 x.k)⟩
        have hlp6 := hsz3
        have hBw7 := below_but hBw6 hbt (Nat.le_refl _) (by omega)
        have P_w7 := but_on P_w6 hbt (by omega)
        have F_w7 := but_on F_w6 hbt (by omega)
        have X_w7 := but_on X_w6 hbt (by omega)
        have Yc0 := Y_w6.cell (k := 0) (v := .int .u8 0) rfl
        have Yc1 := Y_w6.cell (k := 1) (v := .int .i64 0) rfl
        have Yc2 := Y_w6.cell (k := 2) (v := .int .i64 0) rfl
        have Yc3 := Y_w6.cell (k := 3) (v := .int .i64 0) rfl
        have Yc4 := Y_w6.cell (k := 4) (v := .int .i64 0) rfl
        have yf := Y_w6.frozen
        clear hbt hBw6 P_w6 F_w6 X_w6 Y_w6
        obtain ⟨G, E, hA⟩ : ∃ G E, stepF p f = (G, E) := ⟨_, _, rfl⟩
        obtain ⟨K, N, J, hR⟩ : ∃ K N J, runT p f most = (K, N, J) := ⟨_, _, _, rfl⟩
        have HA := Lib.hid hA
        have HR := Lib.hid hR
        clear hA hR
        have hc : Calls Try.prog 13 #[.agg #[v1, v2, v3], fraV f] w7 fun e w' => e = .returned (.tuple #[fraV G, .int .i64 E]) ∧ Below w7.heap.size w7 w' := by have := step_any w7 (h.later hBw7) tame.small may f; rw [HA.out] at this; exact this
        clear hlp6 hsz3
        have Pc0 := P_w7.cell (k := 0) (v := v1) rfl
        have Pc1 := P_w7.cell (k := 1) (v := v2) rfl
        have Pc2 := P_w7.cell (k := 2) (v := v3) rfl
        obtain ⟨Fc0, Fc1, Fc2, Fc3, Fc4, Fc5, Fc6, Fc7, Fc8, Fc9⟩ := fra_cells F_w7
        rw [hww7] at Pc0 Pc1 Pc2 Fc0 Fc1 Fc2 Fc3 Fc4 Fc5 Fc6 Fc7 Fc8 Fc9
        go_wp2_with fail
        rw [← hww7]
        refine hc.mono ?_
        clear hc Pc0 Pc1 Pc2 Fc0 Fc1 Fc2 Fc3 Fc4 Fc5 Fc6 Fc7 Fc8 Fc9 hww7 yf Yc0 Yc1 Yc2 Yc3 Yc4
        rintro e w8 ⟨rfl, hbw8⟩
        have hBw8 := below_next hBw7 hbw8 (Nat.le_refl _)
        have P_w8 := P_w7.later hbw8 P_w7.lt
        have F_w8 := F_w7.later hbw8 F_w7.lt
        have X_w8 := X_w7.later hbw8 X_w7.lt
        have Y_w8 := Y_w7.later hbw8 Y_w7.lt
        clear hbw8 hBw7 P_w7 F_w7 X_w7 Y_w7
        obtain ⟨w9, hww9⟩ : ∃ w9, w9 = (w8.alloc (.cells (fraA G) 29)) := ⟨_, rfl⟩
        have hBw9 : Below w.heap.size w w9 := by rw [hww9]; exact hBw8.alloc hBw8.size _
        have P_w9 : Blk w9 w.heap.size 26 #[v1, v2, v3] := by rw [hww9]; exact P_w8.alloc _
        have F_w9 : Blk w9 (w.heap.size + 1) 29 (fraA f) := by rw [hww9]; exact F_w8.alloc _
        have X_w9 : Blk w9 (w3.heap.size) 33 #[.int .u8 (x.o : Int), .int .i64 x.a, .int .i64 x.b, .int .i64 x.c, .int .i64 x.k] := by rw [hww9]; exact X_w8.alloc _
        have Y_w9 : Blk w9 (w3.heap.size + 1) 33 #[.int .u8 (x.o : Int), .int .i64 x.a, .int .i64 x.b, .int .i64 x.c, .int .i64 x.k] := by rw [hww9]; exact Y_w8.alloc _
        have C_w9 : Blk w9 w8.heap.size 29 (fraA G) := by rw [hww9]; exact blk_new w8 _ _
        clear hBw8 P_w8 F_w8 X_w8 Y_w8
        have hc : Calls Try.prog 14 #[.agg #[v1, v2, v3], fraV f] w9 fun e w' => e = .returned (.tuple #[fraV G, .int .i64 E]) ∧ Below w9.heap.size w9 w' := by have := rstep_any w9 (h.later hBw9) tame.small may f; rw [HA.out] at this; exact this
        have Pc0 := P_w9.cell (k := 0) (v := v1) rfl
        have Pc1 := P_w9.cell (k := 1) (v := v2) rfl
        have Pc2 := P_w9.cell (k := 2) (v := v3) rfl
        obtain ⟨Fc0, Fc1, Fc2, Fc3, Fc4, Fc5, Fc6, Fc7, Fc8, Fc9⟩ := fra_cells F_w9
        rw [hww9] at Pc0 Pc1 Pc2 Fc0 Fc1 Fc2 Fc3 Fc4 Fc5 Fc6 Fc7 Fc8 Fc9
        go_wp2_with fail
        rw [← hww9]
        refine hc.mono ?_
        clear hc Pc0 Pc1 Pc2 Fc0 Fc1 Fc2 Fc3 Fc4 Fc5 Fc6 Fc7 Fc8 Fc9 hww9
        rintro e w10 ⟨rfl, hbw10⟩
        have hBw10 := below_next hBw9 hbw10 (Nat.le_refl _)
        have P_w10 := P_w9.later hbw10 P_w9.lt
        have F_w10 := F_w9.later hbw10 F_w9.lt
        have X_w10 := X_w9.later hbw10 X_w9.lt
        have Y_w10 := Y_w9.later hbw10 Y_w9.lt
        have C_w10 := C_w9.later hbw10 C_w9.lt
        clear hbw10 hBw9 P_w9 F_w9 X_w9 Y_w9 C_w9
        obtain ⟨w11, hww11⟩ : ∃ w11, w11 = (w10.alloc (.cells (fraA G) 29)) := ⟨_, rfl⟩
        have hBw11 : Below w.heap.size w w11 := by rw [hww11]; exact hBw10.alloc hBw10.size _
        have P_w11 : Blk w11 w.heap.size 26 #[v1, v2, v3] := by rw [hww11]; exact P_w10.alloc _
        have F_w11 : Blk w11 (w.heap.size + 1) 29 (fraA f) := by rw [hww11]; exact F_w10.alloc _
        have X_w11 : Blk w11 (w3.heap.size) 33 #[.int .u8 (x.o : Int), .int .i64 x.a, .int .i64 x.b, .int .i64 x.c, .int .i64 x.k] := by rw [hww11]; exact X_w10.alloc _
        have Y_w11 : Blk w11 (w3.heap.size + 1) 33 #[.int .u8 (x.o : Int), .int .i64 x.a, .int .i64 x.b, .int .i64 x.c, .int .i64 x.k] := by rw [hww11]; exact Y_w10.alloc _
        have C_w11 : Blk w11 w8.heap.size 29 (fraA G) := by rw [hww11]; exact C_w10.alloc _
        have D_w11 : Blk w11 w10.heap.size 29 (fraA G) := by rw [hww11]; exact blk_new w10 _ _
        clear hBw10 P_w10 F_w10 X_w10 Y_w10 C_w10
        have hc : Calls Try.prog 15 #[.agg #[v1, v2, v3], fraV f, .int .i64 most] w11 fun e w' => e = .returned (.tuple #[fraV K, .int .i64 N, .int .i64 J]) ∧ Below w11.heap.size w11 w' := by have := run_any w11 (h.later hBw11) tame.small may f most; rw [HR.out] at this; exact this
        have Pc0 := P_w11.cell (k := 0) (v := v1) rfl
        have Pc1 := P_w11.cell (k := 1) (v := v2) rfl
        have Pc2 := P_w11.cell (k := 2) (v := v3) rfl
        obtain ⟨Fc0, Fc1, Fc2, Fc3, Fc4, Fc5, Fc6, Fc7, Fc8, Fc9⟩ := fra_cells F_w11
        rw [hww11] at Pc0 Pc1 Pc2 Fc0 Fc1 Fc2 Fc3 Fc4 Fc5 Fc6 Fc7 Fc8 Fc9
        go_wp2_with fail
        rw [← hww11]
        refine hc.mono ?_
        clear hc Pc0 Pc1 Pc2 Fc0 Fc1 Fc2 Fc3 Fc4 Fc5 Fc6 Fc7 Fc8 Fc9 hww11
        rintro e w12 ⟨rfl, hbw12⟩
        have hBw12 := below_next hBw11 hbw12 (Nat.le_refl _)
        have P_w12 := P_w11.later hbw12 P_w11.lt
        have F_w12 := F_w11.later hbw12 F_w11.lt
        have X_w12 := X_w11.later hbw12 X_w11.lt
        have Y_w12 := Y_w11.later hbw12 Y_w11.lt
        have C_w12 := C_w11.later hbw12 C_w11.lt
        have D_w12 := D_w11.later hbw12 D_w11.lt
        clear hbw12 hBw11 P_w11 F_w11 X_w11 Y_w11 C_w11 D_w11
        obtain ⟨w13, hww13⟩ : ∃ w13, w13 = (w12.alloc (.cells (fraA K) 29)) := ⟨_, rfl⟩
        have hBw13 : Below w.heap.size w w13 := by rw [hww13]; exact hBw12.alloc hBw12.size _
        have P_w13 : Blk w13 w.heap.size 26 #[v1, v2, v3] := by rw [hww13]; exact P_w12.alloc _
        have F_w13 : Blk w13 (w.heap.size + 1) 29 (fraA f) := by rw [hww13]; exact F_w12.alloc _
        have X_w13 : Blk w13 (w3.heap.size) 33 #[.int .u8 (x.o : Int), .int .i64 x.a, .int .i64 x.b, .int .i64 x.c, .int .i64 x.k] := by rw [hww13]; exact X_w12.alloc _
        have Y_w13 : Blk w13 (w3.heap.size + 1) 33 #[.int .u8 (x.o : Int), .int .i64 x.a, .int .i64 x.b, .int .i64 x.c, .int .i64 x.k] := by rw [hww13]; exact Y_w12.alloc _
        have C_w13 : Blk w13 w8.heap.size 29 (fraA G) := by rw [hww13]; exact C_w12.alloc _
        have D_w13 : Blk w13 w10.heap.size 29 (fraA G) := by rw [hww13]; exact D_w12.alloc _
        have Q_w13 : Blk w13 w12.heap.size 29 (fraA K) := by rw [hww13]; exact blk_new w12 _ _
        clear hBw12 P_w12 F_w12 X_w12 Y_w12 C_w12 D_w12
        have hc : Calls Try.prog 16 #[.agg #[v1, v2, v3], fraV f, .int .i64 most] w13 fun e w' => e = .returned (.tuple #[fraV K, .int .i64 N, .int .i64 J]) ∧ Below w13.heap.size w13 w' := by have := rrun_any w13 (h.later hBw13) tame.small may f most; rw [HR.out] at this; exact this
        have Pc0 := P_w13.cell (k := 0) (v := v1) rfl
        have Pc1 := P_w13.cell (k := 1) (v := v2) rfl
        have Pc2 := P_w13.cell (k := 2) (v := v3) rfl
        obtain ⟨Fc0, Fc1, Fc2, Fc3, Fc4, Fc5, Fc6, Fc7, Fc8, Fc9⟩ := fra_cells F_w13
        rw [hww13] at Pc0 Pc1 Pc2 Fc0 Fc1 Fc2 Fc3 Fc4 Fc5 Fc6 Fc7 Fc8 Fc9
        go_wp2_with fail
        rw [← hww13]
        refine hc.mono ?_
        clear hc Pc0 Pc1 Pc2 Fc0 Fc1 Fc2 Fc3 Fc4 Fc5 Fc6 Fc7 Fc8 Fc9 hww13
        rintro e w14 ⟨rfl, hbw14⟩
        have hBw14 := below_next hBw13 hbw14 (Nat.le_refl _)
        have P_w14 := P_w13.later hbw14 P_w13.lt
        have F_w14 := F_w13.later hbw14 F_w13.lt
        have X_w14 := X_w13.later hbw14 X_w13.lt
        have Y_w14 := Y_w13.later hbw14 Y_w13.lt
        have C_w14 := C_w13.later hbw14 C_w13.lt
        have D_w14 := D_w13.later hbw14 D_w13.lt
        have Q_w14 := Q_w13.later hbw14 Q_w13.lt
        clear hbw14 hBw13 P_w13 F_w13 X_w13 Y_w13 C_w13 D_w13 Q_w13
        obtain ⟨w15, hww15⟩ : ∃ w15, w15 = (w14.alloc (.cells (fraA K) 29)) := ⟨_, rfl⟩
        have hBw15 : Below w.heap.size w w15 := by rw [hww15]; exact hBw14.alloc hBw14.size _
        have P_w15 : Blk w15 w.heap.size 26 #[v1, v2, v3] := by rw [hww15]; exact P_w14.alloc _
        have F_w15 : Blk w15 (w.heap.size + 1) 29 (fraA f) := by rw [hww15]; exact F_w14.alloc _
        have X_w15 : Blk w15 (w3.heap.size) 33 #[.int .u8 (x.o : Int), .int .i64 x.a, .int .i64 x.b, .int .i64 x.c, .int .i64 x.k] := by rw [hww15]; exact X_w14.alloc _
        have Y_w15 : Blk w15 (w3.heap.size + 1) 33 #[.int .u8 (x.o : Int), .int .i64 x.a, .int .i64 x.b, .int .i64 x.c, .int .i64 x.k] := by rw [hww15]; exact Y_w14.alloc _
        have C_w15 : Blk w15 w8.heap.size 29 (fraA G) := by rw [hww15]; exact C_w14.alloc _
        have D_w15 : Blk w15 w10.heap.size 29 (fraA G) := by rw [hww15]; exact D_w14.alloc _
        have Q_w15 : Blk w15 w12.heap.size 29 (fraA K) := by rw [hww15]; exact Q_w14.alloc _
        have R_w15 : Blk w15 w14.heap.size 29 (fraA K) := by rw [hww15]; exact blk_new w14 _ _
        clear hBw14 P_w14 F_w14 X_w14 Y_w14 C_w14 D_w14 Q_w14
        have hSS : ∀ w', Below w15.heap.size w15 w' → w'.cell? ⟨w.heap.size, 0, none⟩ = some (v1) ∧ w'.cell? ⟨w.heap.size, 1, none⟩ = some (v2) ∧ w'.cell? ⟨w.heap.size, 2, none⟩ = some (v3) ∧ w'.cell? ⟨(w.heap.size + 1), 0, none⟩ = some (.int .i64 f.c) ∧ w'.cell? ⟨(w.heap.size + 1), 1, none⟩ = some (.int .i64 f.p) ∧ w'.cell? ⟨(w.heap.size + 1), 2, none⟩ = some (.int .i64 f.r0) ∧ w'.cell? ⟨(w.heap.size + 1), 3, none⟩ = some (.int .i64 f.r1) ∧ w'.cell? ⟨(w.heap.size + 1), 4, none⟩ = some (.int .i64 f.r2) ∧ w'.cell? ⟨(w.heap.size + 1), 5, none⟩ = some (.int .i64 f.r3) ∧ w'.cell? ⟨(w.heap.size + 1), 6, none⟩ = some (.int .i64 f.r4) ∧ w'.cell? ⟨(w.heap.size + 1), 7, none⟩ = some (.int .i64 f.r5) ∧ w'.cell? ⟨(w.heap.size + 1), 8, none⟩ = some (.int .i64 f.r6) ∧ w'.cell? ⟨(w.heap.size + 1), 9, none⟩ = some (.int .i64 f.r7) ∧ w'.cell? ⟨(w3.heap.size), 0, none⟩ = some (.int .u8 (x.o : Int)) ∧ w'.cell? ⟨(w3.heap.size), 1, none⟩ = some (.int .i64 x.a) ∧ w'.cell? ⟨(w3.heap.size), 2, none⟩ = some (.int .i64 x.b) ∧ w'.cell? ⟨(w3.heap.size), 3, none⟩ = some (.int .i64 x.c) ∧ w'.cell? ⟨(w3.heap.size), 4, none⟩ = some (.int .i64 x.k) ∧ w'.cell? ⟨(w3.heap.size + 1), 0, none⟩ = some (.int .u8 (x.o : Int)) ∧ w'.cell? ⟨(w3.heap.size + 1), 1, none⟩ = some (.int .i64 x.a) ∧ w'.cell? ⟨(w3.heap.size + 1), 2, none⟩ = some (.int .i64 x.b) ∧ w'.cell? ⟨(w3.heap.size + 1), 3, none⟩ = some (.int .i64 x.c) ∧ w'.cell? ⟨(w3.heap.size + 1), 4, none⟩ = some (.int .i64 x.k) ∧ w'.cell? ⟨w8.heap.size, 0, none⟩ = some (.int .i64 G.c) ∧ w'.cell? ⟨w8.heap.size, 1, none⟩ = some (.int .i64 G.p) ∧ w'.cell? ⟨w8.heap.size, 2, none⟩ = some (.int .i64 G.r0) ∧ w'.cell? ⟨w8.heap.size, 3, none⟩ = some (.int .i64 G.r1) ∧ w'.cell? ⟨w8.heap.size, 4, none⟩ = some (.int .i64 G.r2) ∧ w'.cell? ⟨w8.heap.size, 5, none⟩ = some (.int .i64 G.r3) ∧ w'.cell? ⟨w8.heap.size, 6, none⟩ = some (.int .i64 G.r4) ∧ w'.cell? ⟨w8.heap.size, 7, none⟩ = some (.int .i64 G.r5) ∧ w'.cell? ⟨w8.heap.size, 8, none⟩ = some (.int .i64 G.r6) ∧ w'.cell? ⟨w8.heap.size, 9, none⟩ = some (.int .i64 G.r7) ∧ w'.cell? ⟨w10.heap.size, 0, none⟩ = some (.int .i64 G.c) ∧ w'.cell? ⟨w10.heap.size, 1, none⟩ = some (.int .i64 G.p) ∧ w'.cell? ⟨w10.heap.size, 2, none⟩ = some (.int .i64 G.r0) ∧ w'.cell? ⟨w10.heap.size, 3, none⟩ = some (.int .i64 G.r1) ∧ w'.cell? ⟨w10.heap.size, 4, none⟩ = some (.int .i64 G.r2) ∧ w'.cell? ⟨w10.heap.size, 5, none⟩ = some (.int .i64 G.r3) ∧ w'.cell? ⟨w10.heap.size, 6, none⟩ = some (.int .i64 G.r4) ∧ w'.cell? ⟨w10.heap.size, 7, none⟩ = some (.int .i64 G.r5) ∧ w'.cell? ⟨w10.heap.size, 8, none⟩ = some (.int .i64 G.r6) ∧ w'.cell? ⟨w10.heap.size, 9, none⟩ = some (.int .i64 G.r7) ∧ w'.cell? ⟨w12.heap.size, 0, none⟩ = some (.int .i64 K.c) ∧ w'.cell? ⟨w12.heap.size, 1, none⟩ = some (.int .i64 K.p) ∧ w'.cell? ⟨w12.heap.size, 2, none⟩ = some (.int .i64 K.r0) ∧ w'.cell? ⟨w12.heap.size, 3, none⟩ = some (.int .i64 K.r1) ∧ w'.cell? ⟨w12.heap.size, 4, none⟩ = some (.int .i64 K.r2) ∧ w'.cell? ⟨w12.heap.size, 5, none⟩ = some (.int .i64 K.r3) ∧ w'.cell? ⟨w12.heap.size, 6, none⟩ = some (.int .i64 K.r4) ∧ w'.cell? ⟨w12.heap.size, 7, none⟩ = some (.int .i64 K.r5) ∧ w'.cell? ⟨w12.heap.size, 8, none⟩ = some (.int .i64 K.r6) ∧ w'.cell? ⟨w12.heap.size, 9, none⟩ = some (.int .i64 K.r7) ∧ w'.cell? ⟨w14.heap.size, 0, none⟩ = some (.int .i64 K.c) ∧ w'.cell? ⟨w14.heap.size, 1, none⟩ = some (.int .i64 K.p) ∧ w'.cell? ⟨w14.heap.size, 2, none⟩ = some (.int .i64 K.r0) ∧ w'.cell? ⟨w14.heap.size, 3, none⟩ = some (.int .i64 K.r1) ∧ w'.cell? ⟨w14.heap.size, 4, none⟩ = some (.int .i64 K.r2) ∧ w'.cell? ⟨w14.heap.size, 5, none⟩ = some (.int .i64 K.r3) ∧ w'.cell? ⟨w14.heap.size, 6, none⟩ = some (.int .i64 K.r4) ∧ w'.cell? ⟨w14.heap.size, 7, none⟩ = some (.int .i64 K.r5) ∧ w'.cell? ⟨w14.heap.size, 8, none⟩ = some (.int .i64 K.r6) ∧ w'.cell? ⟨w14.heap.size, 9, none⟩ = some (.int .i64 K.r7) ∧ Below w15.heap.size w15 w' := fun W hW => by
          have P_W := P_w15.later hW P_w15.lt
          have F_W := F_w15.later hW F_w15.lt
          have X_W := X_w15.later hW X_w15.lt
          have Y_W := Y_w15.later hW Y_w15.lt
          have C_W := C_w15.later hW C_w15.lt
          have D_W := D_w15.later hW D_w15.lt
          have Q_W := Q_w15.later hW Q_w15.lt
          have R_W := R_w15.later hW R_w15.lt
          exact ⟨P_W.cell rfl, P_W.cell rfl, P_W.cell rfl, F_W.cell rfl, F_W.cell rfl, F_W.cell rfl, F_W.cell rfl, F_W.cell rfl, F_W.cell rfl, F_W.cell rfl, F_W.cell rfl, F_W.cell rfl, F_W.cell rfl, X_W.cell rfl, X_W.cell rfl, X_W.cell rfl, X_W.cell rfl, X_W.cell rfl, Y_W.cell rfl, Y_W.cell rfl, Y_W.cell rfl, Y_W.cell rfl, Y_W.cell rfl, C_W.cell rfl, C_W.cell rfl, C_W.cell rfl, C_W.cell rfl, C_W.cell rfl, C_W.cell rfl, C_W.cell rfl, C_W.cell rfl, C_W.cell rfl, C_W.cell rfl, D_W.cell rfl, D_W.cell rfl, D_W.cell rfl, D_W.cell rfl, D_W.cell rfl, D_W.cell rfl, D_W.cell rfl, D_W.cell rfl, D_W.cell rfl, D_W.cell rfl, Q_W.cell rfl, Q_W.cell rfl, Q_W.cell rfl, Q_W.cell rfl, Q_W.cell rfl, Q_W.cell rfl, Q_W.cell rfl, Q_W.cell rfl, Q_W.cell rfl, Q_W.cell rfl, R_W.cell rfl, R_W.cell rfl, R_W.cell rfl, R_W.cell rfl, R_W.cell rfl, R_W.cell rfl, R_W.cell rfl, R_W.cell rfl, R_W.cell rfl, R_W.cell rfl, hW⟩
        have cCheck : ∀ W, Below w15.heap.size w15 W → Calls Try.prog 17 #[.agg #[v1, v2, v3], fraV f] W fun e w' => e = .returned (.int .i64 0) ∧ Below w15.heap.size w15 w' := fun W hW => by
          have := fcheck_any W (h.later (below_next hBw15 hW (Nat.le_refl _))) tame.small f
          rw [hat] at this
          exact this.mono fun e w' ⟨h1, h2⟩ => ⟨h1, below_next hW h2 (Nat.le_refl _)⟩
        have cMay : ∀ W, Below w15.heap.size w15 W → Calls Try.prog 11 #[.agg #[v1, v2, v3], fraV f] W fun e w' => e = .returned (.bool true) ∧ Below w15.heap.size w15 w' := fun W hW => by
          have := rmay_any W (h.later (below_next hBw15 hW (Nat.le_refl _))) tame.small f
          rw [hat] at this
          exact this.mono fun e w' ⟨h1, h2⟩ => ⟨h1, below_next hW h2 (Nat.le_refl _)⟩
        have cBeg : ∀ W, Below w15.heap.size w15 W → Calls Try.prog 18 #[.int .i64 c] W fun e w' => e = .returned (.agg #[.int .i64 c, .int .i64 0, .int .i64 0, .int .i64 0, .int .i64 0, .int .i64 0, .int .i64 0, .int .i64 0, .int .i64 0, .int .i64 0]) ∧ Below w15.heap.size w15 w' := fun W hW => by
          have := begin_any c W
          exact this.mono fun e w' ⟨h1, h2⟩ => ⟨h1, below_next hW h2 (Nat.le_refl _)⟩
        have cSpa : ∀ W, Below w15.heap.size w15 W → Calls Try.prog 19 #[fraV f, .int .i64 c] W fun e w' => e = .returned (.agg #[.int .i64 c, .int .i64 0, .int .i64 f.r0, .int .i64 f.r1, .int .i64 f.r2, .int .i64 f.r3, .int .i64 f.r4, .int .i64 f.r5, .int .i64 f.r6, .int .i64 f.r7]) ∧ Below w15.heap.size w15 w' := fun W hW => by
          have := spawn_any f c W
          exact this.mono fun e w' ⟨h1, h2⟩ => ⟨h1, below_next hW h2 (Nat.le_refl _)⟩
        have cAli : ∀ W, Below w15.heap.size w15 W → Calls Try.prog 9 #[] W fun e w' => e = .returned (.bool true) ∧ Below w15.heap.size w15 w' := fun W hW => by
          have := alive_any W
          exact this.mono fun e w' ⟨h1, h2⟩ => ⟨h1, below_next hW h2 (Nat.le_refl _)⟩
        clear P_w15 F_w15 X_w15 Y_w15 C_w15 D_w15 Q_w15 R_w15
        go_wp2_with fail
        rw [← hww15]
        clear hww15
        simp only [List.append_eq, List.cons_append, List.nil_append]
        go_region_held3 (fun w' => w'.cell? ⟨w.heap.size, 0, none⟩ = some (v1) ∧ w'.cell? ⟨w.heap.size, 1, none⟩ = some (v2) ∧ w'.cell? ⟨w.heap.size, 2, none⟩ = some (v3) ∧ w'.cell? ⟨(w.heap.size + 1), 0, none⟩ = some (.int .i64 f.c) ∧ w'.cell? ⟨(w.heap.size + 1), 1, none⟩ = some (.int .i64 f.p) ∧ w'.cell? ⟨(w.heap.size + 1), 2, none⟩ = some (.int .i64 f.r0) ∧ w'.cell? ⟨(w.heap.size + 1), 3, none⟩ = some (.int .i64 f.r1) ∧ w'.cell? ⟨(w.heap.size + 1), 4, none⟩ = some (.int .i64 f.r2) ∧ w'.cell? ⟨(w.heap.size + 1), 5, none⟩ = some (.int .i64 f.r3) ∧ w'.cell? ⟨(w.heap.size + 1), 6, none⟩ = some (.int .i64 f.r4) ∧ w'.cell? ⟨(w.heap.size + 1), 7, none⟩ = some (.int .i64 f.r5) ∧ w'.cell? ⟨(w.heap.size + 1), 8, none⟩ = some (.int .i64 f.r6) ∧ w'.cell? ⟨(w.heap.size + 1), 9, none⟩ = some (.int .i64 f.r7) ∧ w'.cell? ⟨(w3.heap.size), 0, none⟩ = some (.int .u8 (x.o : Int)) ∧ w'.cell? ⟨(w3.heap.size), 1, none⟩ = some (.int .i64 x.a) ∧ w'.cell? ⟨(w3.heap.size), 2, none⟩ = some (.int .i64 x.b) ∧ w'.cell? ⟨(w3.heap.size), 3, none⟩ = some (.int .i64 x.c) ∧ w'.cell? ⟨(w3.heap.size), 4, none⟩ = some (.int .i64 x.k) ∧ w'.cell? ⟨(w3.heap.size + 1), 0, none⟩ = some (.int .u8 (x.o : Int)) ∧ w'.cell? ⟨(w3.heap.size + 1), 1, none⟩ = some (.int .i64 x.a) ∧ w'.cell? ⟨(w3.heap.size + 1), 2, none⟩ = some (.int .i64 x.b) ∧ w'.cell? ⟨(w3.heap.size + 1), 3, none⟩ = some (.int .i64 x.c) ∧ w'.cell? ⟨(w3.heap.size + 1), 4, none⟩ = some (.int .i64 x.k) ∧ w'.cell? ⟨w8.heap.size, 0, none⟩ = some (.int .i64 G.c) ∧ w'.cell? ⟨w8.heap.size, 1, none⟩ = some (.int .i64 G.p) ∧ w'.cell? ⟨w8.heap.size, 2, none⟩ = some (.int .i64 G.r0) ∧ w'.cell? ⟨w8.heap.size, 3, none⟩ = some (.int .i64 G.r1) ∧ w'.cell? ⟨w8.heap.size, 4, none⟩ = some (.int .i64 G.r2) ∧ w'.cell? ⟨w8.heap.size, 5, none⟩ = some (.int .i64 G.r3) ∧ w'.cell? ⟨w8.heap.size, 6, none⟩ = some (.int .i64 G.r4) ∧ w'.cell? ⟨w8.heap.size, 7, none⟩ = some (.int .i64 G.r5) ∧ w'.cell? ⟨w8.heap.size, 8, none⟩ = some (.int .i64 G.r6) ∧ w'.cell? ⟨w8.heap.size, 9, none⟩ = some (.int .i64 G.r7) ∧ w'.cell? ⟨w10.heap.size, 0, none⟩ = some (.int .i64 G.c) ∧ w'.cell? ⟨w10.heap.size, 1, none⟩ = some (.int .i64 G.p) ∧ w'.cell? ⟨w10.heap.size, 2, none⟩ = some (.int .i64 G.r0) ∧ w'.cell? ⟨w10.heap.size, 3, none⟩ = some (.int .i64 G.r1) ∧ w'.cell? ⟨w10.heap.size, 4, none⟩ = some (.int .i64 G.r2) ∧ w'.cell? ⟨w10.heap.size, 5, none⟩ = some (.int .i64 G.r3) ∧ w'.cell? ⟨w10.heap.size, 6, none⟩ = some (.int .i64 G.r4) ∧ w'.cell? ⟨w10.heap.size, 7, none⟩ = some (.int .i64 G.r5) ∧ w'.cell? ⟨w10.heap.size, 8, none⟩ = some (.int .i64 G.r6) ∧ w'.cell? ⟨w10.heap.size, 9, none⟩ = some (.int .i64 G.r7) ∧ w'.cell? ⟨w12.heap.size, 0, none⟩ = some (.int .i64 K.c) ∧ w'.cell? ⟨w12.heap.size, 1, none⟩ = some (.int .i64 K.p) ∧ w'.cell? ⟨w12.heap.size, 2, none⟩ = some (.int .i64 K.r0) ∧ w'.cell? ⟨w12.heap.size, 3, none⟩ = some (.int .i64 K.r1) ∧ w'.cell? ⟨w12.heap.size, 4, none⟩ = some (.int .i64 K.r2) ∧ w'.cell? ⟨w12.heap.size, 5, none⟩ = some (.int .i64 K.r3) ∧ w'.cell? ⟨w12.heap.size, 6, none⟩ = some (.int .i64 K.r4) ∧ w'.cell? ⟨w12.heap.size, 7, none⟩ = some (.int .i64 K.r5) ∧ w'.cell? ⟨w12.heap.size, 8, none⟩ = some (.int .i64 K.r6) ∧ w'.cell? ⟨w12.heap.size, 9, none⟩ = some (.int .i64 K.r7) ∧ w'.cell? ⟨w14.heap.size, 0, none⟩ = some (.int .i64 K.c) ∧ w'.cell? ⟨w14.heap.size, 1, none⟩ = some (.int .i64 K.p) ∧ w'.cell? ⟨w14.heap.size, 2, none⟩ = some (.int .i64 K.r0) ∧ w'.cell? ⟨w14.heap.size, 3, none⟩ = some (.int .i64 K.r1) ∧ w'.cell? ⟨w14.heap.size, 4, none⟩ = some (.int .i64 K.r2) ∧ w'.cell? ⟨w14.heap.size, 5, none⟩ = some (.int .i64 K.r3) ∧ w'.cell? ⟨w14.heap.size, 6, none⟩ = some (.int .i64 K.r4) ∧ w'.cell? ⟨w14.heap.size, 7, none⟩ = some (.int .i64 K.r5) ∧ w'.cell? ⟨w14.heap.size, 8, none⟩ = some (.int .i64 K.r6) ∧ w'.cell? ⟨w14.heap.size, 9, none⟩ = some (.int .i64 K.r7) ∧ Below w15.heap.size w15 w') (refine hSS _ ?_ <;> with_reducible first | exact hb | exact drew_below _) ((first | (go_at_call 17; refine (cCheck _ (by with_reducible first | exact hb | exact drew_below _)).mono ?_; (try clear hb); rintro e wn ⟨rfl, hb⟩) | (go_at_call 11; refine (cMay _ (by with_reducible first | exact hb | exact drew_below _)).mono ?_; (try clear hb); rintro e wn ⟨rfl, hb⟩) | (go_at_call 18; refine (cBeg _ (by with_reducible first | exact hb | exact drew_below _)).mono ?_; (try clear hb); rintro e wn ⟨rfl, hb⟩) | (go_at_call 19; refine (cSpa _ (by with_reducible first | exact hb | exact drew_below _)).mono ?_; (try clear hb); rintro e wn ⟨rfl, hb⟩) | (go_at_call 9; refine (cAli _ (by with_reducible first | exact hb | exact drew_below _)).mono ?_; (try clear hb); rintro e wn ⟨rfl, hb⟩)))
        all_goals go_wp2_with fail
        all_goals go_ret
        all_goals exact ⟨rfl, below_next hBw15 hb (Nat.le_refl _)⟩
end Go.Proofs.Ytplajidagpimdaa
