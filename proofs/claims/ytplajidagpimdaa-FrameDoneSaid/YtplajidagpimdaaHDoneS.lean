/-
  The walk of the document's own Done: a select.
-/
import Derived.Test.YtplajidagpimdaaHDoneR
import Derived.Test.YtplajidagpimdaaHDoneB
namespace Go.Proofs.Ytplajidagpimdaa
open Go.RowKit

/-- The load of the registers' block, under a name of its own. -/
def ld13 : Op := Op.load 27 (Operand.tmp 13)
attribute [local go_sem] ld13
theorem rsel_eq {na nb ns : Nat} {xc : Int} (c : Cas) (f : Fra) (k v : Int) (ok : Bool) : doneG c ⟨8, (na : Int), (nb : Int), xc, (ns : Int)⟩ f k v ok = ((recF c f v ok).put nb k).goto (f.p + 1) := by
  unfold doneG pcF numF
  simp [put_p, recF_p]

set_option maxRecDepth 100000 in
set_option maxHeartbeats 3200000 in
theorem rsel_a {lo hi : Nat} {v1 v2 : Value} {b off c0 : Nat} {p : Prg} (w : World) (h : PrgAt lo hi w v1 v2 (.slice (some ⟨b, off, none⟩) p.sites.length c0) p) (hs : Small p) (f : Fra) (k v : Int) (ok : Bool) {na nb ns : Nat} {xc : Int} (hx : atF p f = some ⟨8, (na : Int), (nb : Int), xc, (ns : Int)⟩) (hl : locO 8 = false) {s : Sit} {ra : Option Addr} {rc : Nat} (hns : ns < p.sites.length) (hbh : b < w.heap.size) (hcw : w.cell? ⟨b, off + ns * 2, none⟩ = some (.slice ra s.cs.length rc)) (hdw : w.cell? ⟨b, off + ns * 2 + 1, none⟩ = some (.bool s.d)) (hk : k < 0) :
    Calls Try.prog 21 #[.agg #[v1, v2, (.slice (some ⟨b, off, none⟩) p.sites.length c0)], fraV f, .int .i64 k, .int .i64 v, .bool ok] w fun e w' => e = .returned (.tuple #[fraV Fra.zero, .int .i64 2]) ∧ Below w.heap.size w w' := by
  have n0 : (0 : Int) ≤ (ns : Int) := by omega
  have n2 : (ns : Int) < (p.sites.length : Int) := by omega
  have kd : decide (k < 0) = true := decide_eq_true hk
  obtain ⟨wf, hwf⟩ : ∃ wf, wf = ((w.alloc (.cells #[v1, v2, (.slice (some ⟨b, off, none⟩) p.sites.length c0)] 26)).alloc (.cells (fraA f) 29)).alloc (.cells (fraA Fra.zero) 29) := ⟨_, rfl⟩
  have hB : Below w.heap.size w wf := by rw [hwf]; exact below3 w _ _ _
  have hP : Blk wf w.heap.size 26 #[v1, v2, (.slice (some ⟨b, off, none⟩) p.sites.length c0)] := by rw [hwf]; exact ((blk_new w _ _).alloc _).alloc _
  have hF : FrAt wf (w.heap.size + 1) f := by rw [hwf]; exact (blk_at (by simp)).alloc _
  have hZ : FrAt wf (w.heap.size + 1 + 1) Fra.zero := by rw [hwf]; exact blk_at (by simp)
  have hsz : wf.heap.size = w.heap.size + 1 + 1 + 1 := by rw [hwf]; simp
  have hc := rmay_any wf (h.later hB) hs f
  go_enter Try.func21, Try.ntmps21
  go_wp2_with fail
  rw [show (#[.int .i64 0, .int .i64 0, .int .i64 0, .int .i64 0, .int .i64 0, .int .i64 0, .int .i64 0, .int .i64 0, .int .i64 0, .int .i64 0] : Array Value) = fraA Fra.zero from rfl, ← hwf]
  clear hwf
  refine hc.mono ?_
  rintro e w1 ⟨rfl, hb⟩
  have hB1 := below_next hB hb (Nat.le_refl _)
  have hP1 := hP.later hb hP.lt
  have hF1 := hF.later hb hF.lt
  have hZ1 := hZ.later hb hZ.lt
  have hs1 : w.heap.size + 1 + 1 + 1 ≤ w1.heap.size := by rw [← hsz]; exact hb.size
  clear hc hB hb hP hF hZ hsz
  have hat : Calls Try.prog 12 #[.agg #[v1, v2, (.slice (some ⟨b, off, none⟩) p.sites.length c0)], fraV f] w1 fun e w' => e = .returned (.agg #[.int .u8 8, .int .i64 (na : Int), .int .i64 (nb : Int), .int .i64 xc, .int .i64 (ns : Int)]) ∧ Below w1.heap.size w1 w' := rat_any w1 (h.later hB1) f hx
  rw [hx, show (some ⟨8, (na : Int), (nb : Int), xc, (ns : Int)⟩ : Option In).isSome = true from rfl]
  have p0 := hP1.cell (k := 0) (v := v1) rfl
  have p1 := hP1.cell (k := 1) (v := v2) rfl
  have p2 := hP1.cell (k := 2) (v := (.slice (some ⟨b, off, none⟩) p.sites.length c0)) rfl
  obtain ⟨q0, q1, q2, q3, q4, q5, q6, q7, q8, q9⟩ := fra_cells hF1
  go_wp2_with fail
  refine hat.mono ?_
  clear hat p0 p1 p2 q0 q1 q2 q3 q4 q5 q6 q7 q8 q9
  rintro e w3 ⟨rfl, hb3⟩
  have hB3 := below_next hB1 hb3 (Nat.le_refl _)
  have hF3 := hF1.later hb3 hF1.lt
  have hZ3 := hZ1.later hb3 hZ1.lt
  have hP3 := hP1.later hb3 hP1.lt
  have hs3 : w.heap.size + 1 + 1 + 1 ≤ w3.heap.size := Nat.le_trans hs1 hb3.size
  obtain ⟨w4, hw4⟩ : ∃ w4, w4 = w3.alloc (.cells #[.int .u8 8, .int .i64 (na : Int), .int .i64 (nb : Int), .int .i64 xc, .int .i64 (ns : Int)] 33) := ⟨_, rfl⟩
  obtain ⟨Y, hY⟩ : ∃ Y, Y = w3.heap.size := ⟨_, rfl⟩
  have hB4 : Below w.heap.size w w4 := by rw [hw4]; exact hB3.alloc hB3.size _
  have hF4 : FrAt w4 (w.heap.size + 1) f := by rw [hw4]; exact hF3.alloc _
  have hZ4 : FrAt w4 (w.heap.size + 1 + 1) Fra.zero := by rw [hw4]; exact hZ3.alloc _
  have hP4 : Blk w4 w.heap.size 26 #[v1, v2, (.slice (some ⟨b, off, none⟩) p.sites.length c0)] := by rw [hw4]; exact hP3.alloc _
  have hY4 : Blk w4 Y 33 #[.int .u8 8, .int .i64 (na : Int), .int .i64 (nb : Int), .int .i64 xc, .int .i64 (ns : Int)] := by rw [hw4, hY]; exact blk_new w3 _ _
  have hs4 : w4.heap.size = Y + 1 := by rw [hw4, hY]; simp
  have hYl : w.heap.size + 1 + 1 < Y := by omega
  clear hB1 hP1 hF1 hZ1 hs1 hb3 hB3 hF3 hZ3 hP3 hs3
  have hloc : Calls Try.prog 27 #[.int .u8 8] w4 fun e w' => e = .returned (.bool false) ∧ w' = w4 := by have := rlocal_any 8 w4; rw [hl] at this; exact this
  rw [hw4] at hloc
  have hpc := at_pc hs hx
  have hwp : IntKind.i64.wrap (f.p + 1) = f.p + 1 := by rw [IntKind.wrap_i64]; omega
  have y0 := hY4.cell (k := 0) (v := .int .u8 8) rfl
  rw [hw4, hY] at y0
  obtain ⟨q0, q1, q2, q3, q4, q5, q6, q7, q8, q9⟩ := fra_cells hF4
  rw [hw4] at q0 q1 q2 q3 q4 q5 q6 q7 q8 q9
  have hFv : FrAt (w4.alloc (.cells #[.int .i64 f.r0, .int .i64 f.r1, .int .i64 f.r2, .int .i64 f.r3, .int .i64 f.r4, .int .i64 f.r5, .int .i64 f.r6, .int .i64 f.r7] 27)) (w.heap.size + 1) f := hF4.alloc _
  obtain ⟨u0, u1, u2, u3, u4, u5, u6, u7, u8, u9⟩ := fra_cells hFv
  rw [hw4] at u0 u1 u2 u3 u4 u5 u6 u7 u8 u9
  obtain ⟨w5, hw5⟩ : ∃ w5, w5 = (w4.alloc (.cells #[.int .i64 f.r0, .int .i64 f.r1, .int .i64 f.r2, .int .i64 f.r3, .int .i64 f.r4, .int .i64 f.r5, .int .i64 f.r6, .int .i64 f.r7] 27)).alloc (.cells #[.int .i64 f.c, .int .i64 (f.p + 1), .int .i64 f.r0, .int .i64 f.r1, .int .i64 f.r2, .int .i64 f.r3, .int .i64 f.r4, .int .i64 f.r5, .int .i64 f.r6, .int .i64 f.r7] 29) := ⟨_, rfl⟩
  have hB5 : Below w.heap.size w w5 := by rw [hw5]; exact (hB4.alloc hB4.size _).alloc (Nat.le_trans hB4.size (by simp)) _
  have hF5 : FrAt w5 (w.heap.size + 1) f := by rw [hw5]; exact (hF4.alloc _).alloc _
  have hP5 : Blk w5 w.heap.size 26 #[v1, v2, (.slice (some ⟨b, off, none⟩) p.sites.length c0)] := by rw [hw5]; exact (hP4.alloc _).alloc _
  have hZ5 : FrAt w5 (w.heap.size + 1 + 1) Fra.zero := by rw [hw5]; exact (hZ4.alloc _).alloc _
  have hY5 : Blk w5 Y 33 #[.int .u8 8, .int .i64 (na : Int), .int .i64 (nb : Int), .int .i64 xc, .int .i64 (ns : Int)] := by rw [hw5]; exact (hY4.alloc _).alloc _
  have hR5 : Blk w5 (Y + 1) 27 (regA f) := by rw [hw5]; exact (blk_at hs4.symm).alloc _
  have hG5 : FrAt w5 (Y + 1 + 1) (f.goto (f.p + 1)) := by rw [hw5]; exact blk_at (by simp [hs4])
  have hs5 : w5.heap.size = Y + 1 + 1 + 1 := by rw [hw5]; simp [hs4]
  rw [hw4] at hw5
  go_upto_region 8 with (go_at_call 27; refine hloc.mono ?_; rintro e w' ⟨rfl, rfl⟩)
  rw [← hw5, ← hY]
  clear hF4 hZ4 hY4 hP4 hs4 hB4 hw4 hw5 hY hloc y0 hwp hpc hFv q0 q1 q2 q3 q4 q5 q6 q7 q8 q9 u0 u1 u2 u3 u4 u5 u6 u7 u8 u9
  have hc5 := cell_stay hcw (hB5.block b hbh)
  have hd5 := cell_stay hdw (hB5.block b hbh)
  have p2 := hP5.cell (k := 2) (v := (.slice (some ⟨b, off, none⟩) p.sites.length c0)) rfl
  have y0 := hY5.cell (k := 0) (v := .int .u8 8) rfl
  have y4 := hY5.cell (k := 4) (v := .int .i64 (ns : Int)) rfl
  obtain ⟨w6, hw6⟩ : ∃ w6, w6 = w5.alloc (.cells #[.slice ra s.cs.length rc, .bool s.d] 55) := ⟨_, rfl⟩
  have hB6 : Below w.heap.size w w6 := by rw [hw6]; exact hB5.alloc hB5.size _
  have hZ6 : FrAt w6 (w.heap.size + 1 + 1) Fra.zero := by rw [hw6]; exact hZ5.alloc _
  have hY6 : Blk w6 Y 33 #[.int .u8 8, .int .i64 (na : Int), .int .i64 (nb : Int), .int .i64 xc, .int .i64 (ns : Int)] := by rw [hw6]; exact hY5.alloc _
  have hR6 : Blk w6 (Y + 1) 27 (regA f) := by rw [hw6]; exact hR5.alloc _
  have hG6 : FrAt w6 (Y + 1 + 1) (f.goto (f.p + 1)) := by rw [hw6]; exact hG5.alloc _
  obtain ⟨T, hT⟩ : ∃ T, T = w5.heap.size := ⟨_, rfl⟩
  have hTl : Y + 1 + 1 < T := by rw [hT, hs5]; exact Nat.lt_succ_self _
  have hT6 : Blk w6 T 55 #[.slice ra s.cs.length rc, .bool s.d] := by rw [hw6, hT]; exact blk_new w5 _ _
  have t0 := hT6.cell (k := 0) (v := .slice ra s.cs.length rc) rfl
  have t1 := hT6.cell (k := 1) (v := .bool s.d) rfl
  rw [hw6, hT] at t0 t1
  clear hs5 hcw hdw hF5 hP5 hB5 hZ5 hG5
  obtain ⟨z0, z1, z2, z3, z4, z5, z6, z7, z8, z9⟩ := fra_cells hZ6
  have zf := hZ6.frozen
  obtain ⟨w9, hw9, hX9, hb9⟩ : ∃ w9, w9 = ((((((((((w6.setCell ⟨w.heap.size + 1 + 1, 0, none⟩ (.int .i64 0)).setCell ⟨w.heap.size + 1 + 1, 1, none⟩ (.int .i64 0)).setCell ⟨w.heap.size + 1 + 1, 2, none⟩ (.int .i64 0)).setCell ⟨w.heap.size + 1 + 1, 3, none⟩ (.int .i64 0)).setCell ⟨w.heap.size + 1 + 1, 4, none⟩ (.int .i64 0)).setCell ⟨w.heap.size + 1 + 1, 5, none⟩ (.int .i64 0)).setCell ⟨w.heap.size + 1 + 1, 6, none⟩ (.int .i64 0)).setCell ⟨w.heap.size + 1 + 1, 7, none⟩ (.int .i64 0)).setCell ⟨w.heap.size + 1 + 1, 8, none⟩ (.int .i64 0)).setCell ⟨w.heap.size + 1 + 1, 9, none⟩ (.int .i64 0)) ∧ Blk w9 (w.heap.size + 1 + 1) 29 (fraA Fra.zero) ∧ But [w.heap.size + 1 + 1] w6 w9 := ⟨_, rfl, sto10 hZ6 (.int .i64 0) (.int .i64 0) (.int .i64 0) (.int .i64 0) (.int .i64 0) (.int .i64 0) (.int .i64 0) (.int .i64 0) (.int .i64 0) (.int .i64 0)⟩
  have hB9 := below_but hB6 hb9 (Nat.le_refl _) (by omega)
  rw [hw6] at z0 z1 z2 z3 z4 z5 z6 z7 z8 z9 zf hw9
  clear hT hT6 hR5 hY5 hG6 hR6 hY6
  go_wp2_with fail
  rw [← hw9]
  obtain ⟨t0, t1, t2, t3, t4, t5, t6, t7, t8, t9⟩ := fra_cells hX9
  refine bodyPost_ret (v := .tuple #[fraV Fra.zero, .int .i64 2]) (by simp [results, Try.f21, go_sem, t0, t1, t2, t3, t4, t5, t6, t7, t8, t9, Fra.zero]) rfl ?_
  exact ⟨rfl, hB9⟩
set_option maxRecDepth 100000 in
set_option maxHeartbeats 3200000 in
theorem rsel_b {lo hi : Nat} {v1 v2 : Value} {b off c0 : Nat} {p : Prg} (w : World) (h : PrgAt lo hi w v1 v2 (.slice (some ⟨b, off, none⟩) p.sites.length c0) p) (hs : Small p) (f : Fra) (k v : Int) (ok : Bool) {na nb ns : Nat} {xc : Int} (hx : atF p f = some ⟨8, (na : Int), (nb : Int), xc, (ns : Int)⟩) (hl : locO 8 = false) {s : Sit} {ra : Option Addr} {rc : Nat} (hns : ns < p.sites.length) (hbh : b < w.heap.size) (hcw : w.cell? ⟨b, off + ns * 2, none⟩ = some (.slice ra s.cs.length rc)) (hdw : w.cell? ⟨b, off + ns * 2 + 1, none⟩ = some (.bool s.d)) (hk : (s.cs.length : Int) < k) :
    Calls Try.prog 21 #[.agg #[v1, v2, (.slice (some ⟨b, off, none⟩) p.sites.length c0)], fraV f, .int .i64 k, .int .i64 v, .bool ok] w fun e w' => e = .returned (.tuple #[fraV Fra.zero, .int .i64 2]) ∧ Below w.heap.size w w' := by
  have n0 : (0 : Int) ≤ (ns : Int) := by omega
  have n2 : (ns : Int) < (p.sites.length : Int) := by omega
  have kd0 : decide (k < 0) = false := decide_eq_false (by omega)
  have kd : decide ((s.cs.length : Int) < k) = true := decide_eq_true hk
  obtain ⟨wf, hwf⟩ : ∃ wf, wf = ((w.alloc (.cells #[v1, v2, (.slice (some ⟨b, off, none⟩) p.sites.length c0)] 26)).alloc (.cells (fraA f) 29)).alloc (.cells (fraA Fra.zero) 29) := ⟨_, rfl⟩
  have hB : Below w.heap.size w wf := by rw [hwf]; exact below3 w _ _ _
  have hP : Blk wf w.heap.size 26 #[v1, v2, (.slice (some ⟨b, off, none⟩) p.sites.length c0)] := by rw [hwf]; exact ((blk_new w _ _).alloc _).alloc _
  have hF : FrAt wf (w.heap.size + 1) f := by rw [hwf]; exact (blk_at (by simp)).alloc _
  have hZ : FrAt wf (w.heap.size + 1 + 1) Fra.zero := by rw [hwf]; exact blk_at (by simp)
  have hsz : wf.heap.size = w.heap.size + 1 + 1 + 1 := by rw [hwf]; simp
  have hc := rmay_any wf (h.later hB) hs f
  go_enter Try.func21, Try.ntmps21
  go_wp2_with fail
  rw [show (#[.int .i64 0, .int .i64 0, .int .i64 0, .int .i64 0, .int .i64 0, .int .i64 0, .int .i64 0, .int .i64 0, .int .i64 0, .int .i64 0] : Array Value) = fraA Fra.zero from rfl, ← hwf]
  clear hwf
  refine hc.mono ?_
  rintro e w1 ⟨rfl, hb⟩
  have hB1 := below_next hB hb (Nat.le_refl _)
  have hP1 := hP.later hb hP.lt
  have hF1 := hF.later hb hF.lt
  have hZ1 := hZ.later hb hZ.lt
  have hs1 : w.heap.size + 1 + 1 + 1 ≤ w1.heap.size := by rw [← hsz]; exact hb.size
  clear hc hB hb hP hF hZ hsz
  have hat : Calls Try.prog 12 #[.agg #[v1, v2, (.slice (some ⟨b, off, none⟩) p.sites.length c0)], fraV f] w1 fun e w' => e = .returned (.agg #[.int .u8 8, .int .i64 (na : Int), .int .i64 (nb : Int), .int .i64 xc, .int .i64 (ns : Int)]) ∧ Below w1.heap.size w1 w' := rat_any w1 (h.later hB1) f hx
  rw [hx, show (some ⟨8, (na : Int), (nb : Int), xc, (ns : Int)⟩ : Option In).isSome = true from rfl]
  have p0 := hP1.cell (k := 0) (v := v1) rfl
  have p1 := hP1.cell (k := 1) (v := v2) rfl
  have p2 := hP1.cell (k := 2) (v := (.slice (some ⟨b, off, none⟩) p.sites.length c0)) rfl
  obtain ⟨q0, q1, q2, q3, q4, q5, q6, q7, q8, q9⟩ := fra_cells hF1
  go_wp2_with fail
  refine hat.mono ?_
  clear hat p0 p1 p2 q0 q1 q2 q3 q4 q5 q6 q7 q8 q9
  rintro e w3 ⟨rfl, hb3⟩
  have hB3 := below_next hB1 hb3 (Nat.le_refl _)
  have hF3 := hF1.later hb3 hF1.lt
  have hZ3 := hZ1.later hb3 hZ1.lt
  have hP3 := hP1.later hb3 hP1.lt
  have hs3 : w.heap.size + 1 + 1 + 1 ≤ w3.heap.size := Nat.le_trans hs1 hb3.size
  obtain ⟨w4, hw4⟩ : ∃ w4, w4 = w3.alloc (.cells #[.int .u8 8, .int .i64 (na : Int), .int .i64 (nb : Int), .int .i64 xc, .int .i64 (ns : Int)] 33) := ⟨_, rfl⟩
  obtain ⟨Y, hY⟩ : ∃ Y, Y = w3.heap.size := ⟨_, rfl⟩
  have hB4 : Below w.heap.size w w4 := by rw [hw4]; exact hB3.alloc hB3.size _
  have hF4 : FrAt w4 (w.heap.size + 1) f := by rw [hw4]; exact hF3.alloc _
  have hZ4 : FrAt w4 (w.heap.size + 1 + 1) Fra.zero := by rw [hw4]; exact hZ3.alloc _
  have hP4 : Blk w4 w.heap.size 26 #[v1, v2, (.slice (some ⟨b, off, none⟩) p.sites.length c0)] := by rw [hw4]; exact hP3.alloc _
  have hY4 : Blk w4 Y 33 #[.int .u8 8, .int .i64 (na : Int), .int .i64 (nb : Int), .int .i64 xc, .int .i64 (ns : Int)] := by rw [hw4, hY]; exact blk_new w3 _ _
  have hs4 : w4.heap.size = Y + 1 := by rw [hw4, hY]; simp
  have hYl : w.heap.size + 1 + 1 < Y := by omega
  clear hB1 hP1 hF1 hZ1 hs1 hb3 hB3 hF3 hZ3 hP3 hs3
  have hloc : Calls Try.prog 27 #[.int .u8 8] w4 fun e w' => e = .returned (.bool false) ∧ w' = w4 := by have := rlocal_any 8 w4; rw [hl] at this; exact this
  rw [hw4] at hloc
  have hpc := at_pc hs hx
  have hwp : IntKind.i64.wrap (f.p + 1) = f.p + 1 := by rw [IntKind.wrap_i64]; omega
  have y0 := hY4.cell (k := 0) (v := .int .u8 8) rfl
  rw [hw4, hY] at y0
  obtain ⟨q0, q1, q2, q3, q4, q5, q6, q7, q8, q9⟩ := fra_cells hF4
  rw [hw4] at q0 q1 q2 q3 q4 q5 q6 q7 q8 q9
  have hFv : FrAt (w4.alloc (.cells #[.int .i64 f.r0, .int .i64 f.r1, .int .i64 f.r2, .int .i64 f.r3, .int .i64 f.r4, .int .i64 f.r5, .int .i64 f.r6, .int .i64 f.r7] 27)) (w.heap.size + 1) f := hF4.alloc _
  obtain ⟨u0, u1, u2, u3, u4, u5, u6, u7, u8, u9⟩ := fra_cells hFv
  rw [hw4] at u0 u1 u2 u3 u4 u5 u6 u7 u8 u9
  obtain ⟨w5, hw5⟩ : ∃ w5, w5 = (w4.alloc (.cells #[.int .i64 f.r0, .int .i64 f.r1, .int .i64 f.r2, .int .i64 f.r3, .int .i64 f.r4, .int .i64 f.r5, .int .i64 f.r6, .int .i64 f.r7] 27)).alloc (.cells #[.int .i64 f.c, .int .i64 (f.p + 1), .int .i64 f.r0, .int .i64 f.r1, .int .i64 f.r2, .int .i64 f.r3, .int .i64 f.r4, .int .i64 f.r5, .int .i64 f.r6, .int .i64 f.r7] 29) := ⟨_, rfl⟩
  have hB5 : Below w.heap.size w w5 := by rw [hw5]; exact (hB4.alloc hB4.size _).alloc (Nat.le_trans hB4.size (by simp)) _
  have hF5 : FrAt w5 (w.heap.size + 1) f := by rw [hw5]; exact (hF4.alloc _).alloc _
  have hP5 : Blk w5 w.heap.size 26 #[v1, v2, (.slice (some ⟨b, off, none⟩) p.sites.length c0)] := by rw [hw5]; exact (hP4.alloc _).alloc _
  have hZ5 : FrAt w5 (w.heap.size + 1 + 1) Fra.zero := by rw [hw5]; exact (hZ4.alloc _).alloc _
  have hY5 : Blk w5 Y 33 #[.int .u8 8, .int .i64 (na : Int), .int .i64 (nb : Int), .int .i64 xc, .int .i64 (ns : Int)] := by rw [hw5]; exact (hY4.alloc _).alloc _
  have hR5 : Blk w5 (Y + 1) 27 (regA f) := by rw [hw5]; exact (blk_at hs4.symm).alloc _
  have hG5 : FrAt w5 (Y + 1 + 1) (f.goto (f.p + 1)) := by rw [hw5]; exact blk_at (by simp [hs4])
  have hs5 : w5.heap.size = Y + 1 + 1 + 1 := by rw [hw5]; simp [hs4]
  rw [hw4] at hw5
  go_upto_region 8 with (go_at_call 27; refine hloc.mono ?_; rintro e w' ⟨rfl, rfl⟩)
  rw [← hw5, ← hY]
  clear hF4 hZ4 hY4 hP4 hs4 hB4 hw4 hw5 hY hloc y0 hwp hpc hFv q0 q1 q2 q3 q4 q5 q6 q7 q8 q9 u0 u1 u2 u3 u4 u5 u6 u7 u8 u9
  have hc5 := cell_stay hcw (hB5.block b hbh)
  have hd5 := cell_stay hdw (hB5.block b hbh)
  have p2 := hP5.cell (k := 2) (v := (.slice (some ⟨b, off, none⟩) p.sites.length c0)) rfl
  have y0 := hY5.cell (k := 0) (v := .int .u8 8) rfl
  have y4 := hY5.cell (k := 4) (v := .int .i64 (ns : Int)) rfl
  obtain ⟨w6, hw6⟩ : ∃ w6, w6 = w5.alloc (.cells #[.slice ra s.cs.length rc, .bool s.d] 55) := ⟨_, rfl⟩
  have hB6 : Below w.heap.size w w6 := by rw [hw6]; exact hB5.alloc hB5.size _
  have hZ6 : FrAt w6 (w.heap.size + 1 + 1) Fra.zero := by rw [hw6]; exact hZ5.alloc _
  have hY6 : Blk w6 Y 33 #[.int .u8 8, .int .i64 (na : Int), .int .i64 (nb : Int), .int .i64 xc, .int .i64 (ns : Int)] := by rw [hw6]; exact hY5.alloc _
  have hR6 : Blk w6 (Y + 1) 27 (regA f) := by rw [hw6]; exact hR5.alloc _
  have hG6 : FrAt w6 (Y + 1 + 1) (f.goto (f.p + 1)) := by rw [hw6]; exact hG5.alloc _
  obtain ⟨T, hT⟩ : ∃ T, T = w5.heap.size := ⟨_, rfl⟩
  have hTl : Y + 1 + 1 < T := by rw [hT, hs5]; exact Nat.lt_succ_self _
  have hT6 : Blk w6 T 55 #[.slice ra s.cs.length rc, .bool s.d] := by rw [hw6, hT]; exact blk_new w5 _ _
  have t0 := hT6.cell (k := 0) (v := .slice ra s.cs.length rc) rfl
  have t1 := hT6.cell (k := 1) (v := .bool s.d) rfl
  rw [hw6, hT] at t0 t1
  clear hs5 hcw hdw hF5 hP5 hB5 hZ5 hG5
  obtain ⟨z0, z1, z2, z3, z4, z5, z6, z7, z8, z9⟩ := fra_cells hZ6
  have zf := hZ6.frozen
  obtain ⟨w9, hw9, hX9, hb9⟩ : ∃ w9, w9 = ((((((((((w6.setCell ⟨w.heap.size + 1 + 1, 0, none⟩ (.int .i64 0)).setCell ⟨w.heap.size + 1 + 1, 1, none⟩ (.int .i64 0)).setCell ⟨w.heap.size + 1 + 1, 2, none⟩ (.int .i64 0)).setCell ⟨w.heap.size + 1 + 1, 3, none⟩ (.int .i64 0)).setCell ⟨w.heap.size + 1 + 1, 4, none⟩ (.int .i64 0)).setCell ⟨w.heap.size + 1 + 1, 5, none⟩ (.int .i64 0)).setCell ⟨w.heap.size + 1 + 1, 6, none⟩ (.int .i64 0)).setCell ⟨w.heap.size + 1 + 1, 7, none⟩ (.int .i64 0)).setCell ⟨w.heap.size + 1 + 1, 8, none⟩ (.int .i64 0)).setCell ⟨w.heap.size + 1 + 1, 9, none⟩ (.int .i64 0)) ∧ Blk w9 (w.heap.size + 1 + 1) 29 (fraA Fra.zero) ∧ But [w.heap.size + 1 + 1] w6 w9 := ⟨_, rfl, sto10 hZ6 (.int .i64 0) (.int .i64 0) (.int .i64 0) (.int .i64 0) (.int .i64 0) (.int .i64 0) (.int .i64 0) (.int .i64 0) (.int .i64 0) (.int .i64 0)⟩
  have hB9 := below_but hB6 hb9 (Nat.le_refl _) (by omega)
  rw [hw6] at z0 z1 z2 z3 z4 z5 z6 z7 z8 z9 zf hw9
  clear hT hT6 hR5 hY5 hG6 hR6 hY6
  go_wp2_with fail
  rw [← hw9]
  obtain ⟨t0, t1, t2, t3, t4, t5, t6, t7, t8, t9⟩ := fra_cells hX9
  refine bodyPost_ret (v := .tuple #[fraV Fra.zero, .int .i64 2]) (by simp [results, Try.f21, go_sem, t0, t1, t2, t3, t4, t5, t6, t7, t8, t9, Fra.zero]) rfl ?_
  exact ⟨rfl, hB9⟩
set_option maxRecDepth 100000 in
set_option maxHeartbeats 3200000 in
theorem rsel_c {lo hi : Nat} {v1 v2 : Value} {b off c0 : Nat} {p : Prg} (w : World) (h : PrgAt lo hi w v1 v2 (.slice (some ⟨b, off, none⟩) p.sites.length c0) p) (hs : Small p) (f : Fra) (v : Int) (ok : Bool) {na nb ns : Nat} {xc : Int} (hx : atF p f = some ⟨8, (na : Int), (nb : Int), xc, (ns : Int)⟩) (hl : locO 8 = false) {s : Sit} {ra : Option Addr} {rc : Nat} (hns : ns < p.sites.length) (hbh : b < w.heap.size) (hcw : w.cell? ⟨b, off + ns * 2, none⟩ = some (.slice ra s.cs.length rc)) (hdw : w.cell? ⟨b, off + ns * 2 + 1, none⟩ = some (.bool false)) :
    Calls Try.prog 21 #[.agg #[v1, v2, (.slice (some ⟨b, off, none⟩) p.sites.length c0)], fraV f, .int .i64 (s.cs.length : Int), .int .i64 v, .bool ok] w fun e w' => e = .returned (.tuple #[fraV Fra.zero, .int .i64 2]) ∧ Below w.heap.size w w' := by
  have n0 : (0 : Int) ≤ (ns : Int) := by omega
  have n2 : (ns : Int) < (p.sites.length : Int) := by omega
  have kd0 : decide ((s.cs.length : Int) < 0) = false := decide_eq_false (by omega)
  have kd1 : ¬ (s.cs.length : Int) < 0 := by omega
  obtain ⟨wf, hwf⟩ : ∃ wf, wf = ((w.alloc (.cells #[v1, v2, (.slice (some ⟨b, off, none⟩) p.sites.length c0)] 26)).alloc (.cells (fraA f) 29)).alloc (.cells (fraA Fra.zero) 29) := ⟨_, rfl⟩
  have hB : Below w.heap.size w wf := by rw [hwf]; exact below3 w _ _ _
  have hP : Blk wf w.heap.size 26 #[v1, v2, (.slice (some ⟨b, off, none⟩) p.sites.length c0)] := by rw [hwf]; exact ((blk_new w _ _).alloc _).alloc _
  have hF : FrAt wf (w.heap.size + 1) f := by rw [hwf]; exact (blk_at (by simp)).alloc _
  have hZ : FrAt wf (w.heap.size + 1 + 1) Fra.zero := by rw [hwf]; exact blk_at (by simp)
  have hsz : wf.heap.size = w.heap.size + 1 + 1 + 1 := by rw [hwf]; simp
  have hc := rmay_any wf (h.later hB) hs f
  go_enter Try.func21, Try.ntmps21
  go_wp2_with fail
  rw [show (#[.int .i64 0, .int .i64 0, .int .i64 0, .int .i64 0, .int .i64 0, .int .i64 0, .int .i64 0, .int .i64 0, .int .i64 0, .int .i64 0] : Array Value) = fraA Fra.zero from rfl, ← hwf]
  clear hwf
  refine hc.mono ?_
  rintro e w1 ⟨rfl, hb⟩
  have hB1 := below_next hB hb (Nat.le_refl _)
  have hP1 := hP.later hb hP.lt
  have hF1 := hF.later hb hF.lt
  have hZ1 := hZ.later hb hZ.lt
  have hs1 : w.heap.size + 1 + 1 + 1 ≤ w1.heap.size := by rw [← hsz]; exact hb.size
  clear hc hB hb hP hF hZ hsz
  have hat : Calls Try.prog 12 #[.agg #[v1, v2, (.slice (some ⟨b, off, none⟩) p.sites.length c0)], fraV f] w1 fun e w' => e = .returned (.agg #[.int .u8 8, .int .i64 (na : Int), .int .i64 (nb : Int), .int .i64 xc, .int .i64 (ns : Int)]) ∧ Below w1.heap.size w1 w' := rat_any w1 (h.later hB1) f hx
  rw [hx, show (some ⟨8, (na : Int), (nb : Int), xc, (ns : Int)⟩ : Option In).isSome = true from rfl]
  have p0 := hP1.cell (k := 0) (v := v1) rfl
  have p1 := hP1.cell (k := 1) (v := v2) rfl
  have p2 := hP1.cell (k := 2) (v := (.slice (some ⟨b, off, none⟩) p.sites.length c0)) rfl
  obtain ⟨q0, q1, q2, q3, q4, q5, q6, q7, q8, q9⟩ := fra_cells hF1
  go_wp2_with fail
  refine hat.mono ?_
  clear hat p0 p1 p2 q0 q1 q2 q3 q4 q5 q6 q7 q8 q9
  rintro e w3 ⟨rfl, hb3⟩
  have hB3 := below_next hB1 hb3 (Nat.le_refl _)
  have hF3 := hF1.later hb3 hF1.lt
  have hZ3 := hZ1.later hb3 hZ1.lt
  have hP3 := hP1.later hb3 hP1.lt
  have hs3 : w.heap.size + 1 + 1 + 1 ≤ w3.heap.size := Nat.le_trans hs1 hb3.size
  obtain ⟨w4, hw4⟩ : ∃ w4, w4 = w3.alloc (.cells #[.int .u8 8, .int .i64 (na : Int), .int .i64 (nb : Int), .int .i64 xc, .int .i64 (ns : Int)] 33) := ⟨_, rfl⟩
  obtain ⟨Y, hY⟩ : ∃ Y, Y = w3.heap.size := ⟨_, rfl⟩
  have hB4 : Below w.heap.size w w4 := by rw [hw4]; exact hB3.alloc hB3.size _
  have hF4 : FrAt w4 (w.heap.size + 1) f := by rw [hw4]; exact hF3.alloc _
  have hZ4 : FrAt w4 (w.heap.size + 1 + 1) Fra.zero := by rw [hw4]; exact hZ3.alloc _
  have hP4 : Blk w4 w.heap.size 26 #[v1, v2, (.slice (some ⟨b, off, none⟩) p.sites.length c0)] := by rw [hw4]; exact hP3.alloc _
  have hY4 : Blk w4 Y 33 #[.int .u8 8, .int .i64 (na : Int), .int .i64 (nb : Int), .int .i64 xc, .int .i64 (ns : Int)] := by rw [hw4, hY]; exact blk_new w3 _ _
  have hs4 : w4.heap.size = Y + 1 := by rw [hw4, hY]; simp
  have hYl : w.heap.size + 1 + 1 < Y := by omega
  clear hB1 hP1 hF1 hZ1 hs1 hb3 hB3 hF3 hZ3 hP3 hs3
  have hloc : Calls Try.prog 27 #[.int .u8 8] w4 fun e w' => e = .returned (.bool false) ∧ w' = w4 := by have := rlocal_any 8 w4; rw [hl] at this; exact this
  rw [hw4] at hloc
  have hpc := at_pc hs hx
  have hwp : IntKind.i64.wrap (f.p + 1) = f.p + 1 := by rw [IntKind.wrap_i64]; omega
  have y0 := hY4.cell (k := 0) (v := .int .u8 8) rfl
  rw [hw4, hY] at y0
  obtain ⟨q0, q1, q2, q3, q4, q5, q6, q7, q8, q9⟩ := fra_cells hF4
  rw [hw4] at q0 q1 q2 q3 q4 q5 q6 q7 q8 q9
  have hFv : FrAt (w4.alloc (.cells #[.int .i64 f.r0, .int .i64 f.r1, .int .i64 f.r2, .int .i64 f.r3, .int .i64 f.r4, .int .i64 f.r5, .int .i64 f.r6, .int .i64 f.r7] 27)) (w.heap.size + 1) f := hF4.alloc _
  obtain ⟨u0, u1, u2, u3, u4, u5, u6, u7, u8, u9⟩ := fra_cells hFv
  rw [hw4] at u0 u1 u2 u3 u4 u5 u6 u7 u8 u9
  obtain ⟨w5, hw5⟩ : ∃ w5, w5 = (w4.alloc (.cells #[.int .i64 f.r0, .int .i64 f.r1, .int .i64 f.r2, .int .i64 f.r3, .int .i64 f.r4, .int .i64 f.r5, .int .i64 f.r6, .int .i64 f.r7] 27)).alloc (.cells #[.int .i64 f.c, .int .i64 (f.p + 1), .int .i64 f.r0, .int .i64 f.r1, .int .i64 f.r2, .int .i64 f.r3, .int .i64 f.r4, .int .i64 f.r5, .int .i64 f.r6, .int .i64 f.r7] 29) := ⟨_, rfl⟩
  have hB5 : Below w.heap.size w w5 := by rw [hw5]; exact (hB4.alloc hB4.size _).alloc (Nat.le_trans hB4.size (by simp)) _
  have hF5 : FrAt w5 (w.heap.size + 1) f := by rw [hw5]; exact (hF4.alloc _).alloc _
  have hP5 : Blk w5 w.heap.size 26 #[v1, v2, (.slice (some ⟨b, off, none⟩) p.sites.length c0)] := by rw [hw5]; exact (hP4.alloc _).alloc _
  have hZ5 : FrAt w5 (w.heap.size + 1 + 1) Fra.zero := by rw [hw5]; exact (hZ4.alloc _).alloc _
  have hY5 : Blk w5 Y 33 #[.int .u8 8, .int .i64 (na : Int), .int .i64 (nb : Int), .int .i64 xc, .int .i64 (ns : Int)] := by rw [hw5]; exact (hY4.alloc _).alloc _
  have hR5 : Blk w5 (Y + 1) 27 (regA f) := by rw [hw5]; exact (blk_at hs4.symm).alloc _
  have hG5 : FrAt w5 (Y + 1 + 1) (f.goto (f.p + 1)) := by rw [hw5]; exact blk_at (by simp [hs4])
  have hs5 : w5.heap.size = Y + 1 + 1 + 1 := by rw [hw5]; simp [hs4]
  rw [hw4] at hw5
  go_upto_region 8 with (go_at_call 27; refine hloc.mono ?_; rintro e w' ⟨rfl, rfl⟩)
  rw [← hw5, ← hY]
  clear hF4 hZ4 hY4 hP4 hs4 hB4 hw4 hw5 hY hloc y0 hwp hpc hFv q0 q1 q2 q3 q4 q5 q6 q7 q8 q9 u0 u1 u2 u3 u4 u5 u6 u7 u8 u9
  have hc5 := cell_stay hcw (hB5.block b hbh)
  have hd5 := cell_stay hdw (hB5.block b hbh)
  have p2 := hP5.cell (k := 2) (v := (.slice (some ⟨b, off, none⟩) p.sites.length c0)) rfl
  have y0 := hY5.cell (k := 0) (v := .int .u8 8) rfl
  have y4 := hY5.cell (k := 4) (v := .int .i64 (ns : Int)) rfl
  obtain ⟨w6, hw6⟩ : ∃ w6, w6 = w5.alloc (.cells #[.slice ra s.cs.length rc, .bool false] 55) := ⟨_, rfl⟩
  have hB6 : Below w.heap.size w w6 := by rw [hw6]; exact hB5.alloc hB5.size _
  have hZ6 : FrAt w6 (w.heap.size + 1 + 1) Fra.zero := by rw [hw6]; exact hZ5.alloc _
  have hY6 : Blk w6 Y 33 #[.int .u8 8, .int .i64 (na : Int), .int .i64 (nb : Int), .int .i64 xc, .int .i64 (ns : Int)] := by rw [hw6]; exact hY5.alloc _
  have hR6 : Blk w6 (Y + 1) 27 (regA f) := by rw [hw6]; exact hR5.alloc _
  have hG6 : FrAt w6 (Y + 1 + 1) (f.goto (f.p + 1)) := by rw [hw6]; exact hG5.alloc _
  obtain ⟨T, hT⟩ : ∃ T, T = w5.heap.size := ⟨_, rfl⟩
  have hTl : Y + 1 + 1 < T := by rw [hT, hs5]; exact Nat.lt_succ_self _
  have hT6 : Blk w6 T 55 #[.slice ra s.cs.length rc, .bool false] := by rw [hw6, hT]; exact blk_new w5 _ _
  have t0 := hT6.cell (k := 0) (v := .slice ra s.cs.length rc) rfl
  have t1 := hT6.cell (k := 1) (v := .bool false) rfl
  rw [hw6, hT] at t0 t1
  clear hs5 hcw hdw hF5 hP5 hB5 hZ5 hG5
  obtain ⟨z0, z1, z2, z3, z4, z5, z6, z7, z8, z9⟩ := fra_cells hZ6
  have zf := hZ6.frozen
  obtain ⟨w9, hw9, hX9, hb9⟩ : ∃ w9, w9 = ((((((((((w6.setCell ⟨w.heap.size + 1 + 1, 0, none⟩ (.int .i64 0)).setCell ⟨w.heap.size + 1 + 1, 1, none⟩ (.int .i64 0)).setCell ⟨w.heap.size + 1 + 1, 2, none⟩ (.int .i64 0)).setCell ⟨w.heap.size + 1 + 1, 3, none⟩ (.int .i64 0)).setCell ⟨w.heap.size + 1 + 1, 4, none⟩ (.int .i64 0)).setCell ⟨w.heap.size + 1 + 1, 5, none⟩ (.int .i64 0)).setCell ⟨w.heap.size + 1 + 1, 6, none⟩ (.int .i64 0)).setCell ⟨w.heap.size + 1 + 1, 7, none⟩ (.int .i64 0)).setCell ⟨w.heap.size + 1 + 1, 8, none⟩ (.int .i64 0)).setCell ⟨w.heap.size + 1 + 1, 9, none⟩ (.int .i64 0)) ∧ Blk w9 (w.heap.size + 1 + 1) 29 (fraA Fra.zero) ∧ But [w.heap.size + 1 + 1] w6 w9 := ⟨_, rfl, sto10 hZ6 (.int .i64 0) (.int .i64 0) (.int .i64 0) (.int .i64 0) (.int .i64 0) (.int .i64 0) (.int .i64 0) (.int .i64 0) (.int .i64 0) (.int .i64 0)⟩
  have hB9 := below_but hB6 hb9 (Nat.le_refl _) (by omega)
  rw [hw6] at z0 z1 z2 z3 z4 z5 z6 z7 z8 z9 zf hw9
  clear hT hT6 hR5 hY5 hG6 hR6 hY6
  go_wp2_with fail
  rw [← hw9]
  obtain ⟨t0, t1, t2, t3, t4, t5, t6, t7, t8, t9⟩ := fra_cells hX9
  refine bodyPost_ret (v := .tuple #[fraV Fra.zero, .int .i64 2]) (by simp [results, Try.f21, go_sem, t0, t1, t2, t3, t4, t5, t6, t7, t8, t9, Fra.zero]) rfl ?_
  exact ⟨rfl, hB9⟩
set_option maxRecDepth 100000 in
set_option maxHeartbeats 3200000 in
theorem rsel_s {lo hi : Nat} {v1 v2 : Value} {b off c0 : Nat} {p : Prg} (w : World) (h : PrgAt lo hi w v1 v2 (.slice (some ⟨b, off, none⟩) p.sites.length c0) p) (hs : Small p) (f : Fra) (v : Int) (ok : Bool) {na nb ns : Nat} {xc : Int} (hx : atF p f = some ⟨8, (na : Int), (nb : Int), xc, (ns : Int)⟩) (hl : locO 8 = false) {s : Sit} {m b2 off2 : Nat} {rc : Nat} (hns : ns < p.sites.length) (hbh : b < w.heap.size) (hcw : w.cell? ⟨b, off + ns * 2, none⟩ = some (.slice (some ⟨b2, off2, none⟩) s.cs.length rc)) (hdw : w.cell? ⟨b, off + ns * 2 + 1, none⟩ = some (.bool s.d)) (hm : m < s.cs.length) (hb2h : b2 < w.heap.size) {yc : Int} {nv no : Nat} (dw0 : w.cell? ⟨b2, off2 + m * 4, none⟩ = some (.bool true)) (hnb : nb < 8) :
    Calls Try.prog 21 #[.agg #[v1, v2, (.slice (some ⟨b, off, none⟩) p.sites.length c0)], fraV f, .int .i64 (m : Int), .int .i64 v, .bool ok] w fun e w' => e = .returned (.tuple #[fraV (doneG ⟨true, yc, (nv : Int), (no : Int)⟩ ⟨8, (na : Int), (nb : Int), xc, (ns : Int)⟩ f (m : Int) v ok), .int .i64 0]) ∧ Below w.heap.size w w' := by
  have n0 : (0 : Int) ≤ (ns : Int) := by omega
  have n2 : (ns : Int) < (p.sites.length : Int) := by omega
  have m0 : (0 : Int) ≤ (m : Int) := by omega
  have m1 : (m : Int) < (s.cs.length : Int) := by omega
  have kd0 : decide ((m : Int) < 0) = false := decide_eq_false (by omega)
  have kd1 : decide ((s.cs.length : Int) < (m : Int)) = false := decide_eq_false (by omega)
  have kd2 : ((m : Int) == (s.cs.length : Int)) = false := by simp; omega
  have kd3 : decide ((m : Int) < (s.cs.length : Int)) = true := decide_eq_true m1
  obtain ⟨wf, hwf⟩ : ∃ wf, wf = ((w.alloc (.cells #[v1, v2, (.slice (some ⟨b, off, none⟩) p.sites.length c0)] 26)).alloc (.cells (fraA f) 29)).alloc (.cells (fraA Fra.zero) 29) := ⟨_, rfl⟩
  have hB : Below w.heap.size w wf := by rw [hwf]; exact below3 w _ _ _
  have hP : Blk wf w.heap.size 26 #[v1, v2, (.slice (some ⟨b, off, none⟩) p.sites.length c0)] := by rw [hwf]; exact ((blk_new w _ _).alloc _).alloc _
  have hF : FrAt wf (w.heap.size + 1) f := by rw [hwf]; exact (blk_at (by simp)).alloc _
  have hZ : FrAt wf (w.heap.size + 1 + 1) Fra.zero := by rw [hwf]; exact blk_at (by simp)
  have hsz : wf.heap.size = w.heap.size + 1 + 1 + 1 := by rw [hwf]; simp
  have hc := rmay_any wf (h.later hB) hs f
  go_enter Try.func21, Try.ntmps21
  go_wp2_with fail
  rw [show (#[.int .i64 0, .int .i64 0, .int .i64 0, .int .i64 0, .int .i64 0, .int .i64 0, .int .i64 0, .int .i64 0, .int .i64 0, .int .i64 0] : Array Value) = fraA Fra.zero from rfl, ← hwf]
  clear hwf
  refine hc.mono ?_
  rintro e w1 ⟨rfl, hb⟩
  have hB1 := below_next hB hb (Nat.le_refl _)
  have hP1 := hP.later hb hP.lt
  have hF1 := hF.later hb hF.lt
  have hZ1 := hZ.later hb hZ.lt
  have hs1 : w.heap.size + 1 + 1 + 1 ≤ w1.heap.size := by rw [← hsz]; exact hb.size
  clear hc hB hb hP hF hZ hsz
  have hat : Calls Try.prog 12 #[.agg #[v1, v2, (.slice (some ⟨b, off, none⟩) p.sites.length c0)], fraV f] w1 fun e w' => e = .returned (.agg #[.int .u8 8, .int .i64 (na : Int), .int .i64 (nb : Int), .int .i64 xc, .int .i64 (ns : Int)]) ∧ Below w1.heap.size w1 w' := rat_any w1 (h.later hB1) f hx
  rw [hx, show (some ⟨8, (na : Int), (nb : Int), xc, (ns : Int)⟩ : Option In).isSome = true from rfl]
  have p0 := hP1.cell (k := 0) (v := v1) rfl
  have p1 := hP1.cell (k := 1) (v := v2) rfl
  have p2 := hP1.cell (k := 2) (v := (.slice (some ⟨b, off, none⟩) p.sites.length c0)) rfl
  obtain ⟨q0, q1, q2, q3, q4, q5, q6, q7, q8, q9⟩ := fra_cells hF1
  go_wp2_with fail
  refine hat.mono ?_
  clear hat p0 p1 p2 q0 q1 q2 q3 q4 q5 q6 q7 q8 q9
  rintro e w3 ⟨rfl, hb3⟩
  have hB3 := below_next hB1 hb3 (Nat.le_refl _)
  have hF3 := hF1.later hb3 hF1.lt
  have hZ3 := hZ1.later hb3 hZ1.lt
  have hP3 := hP1.later hb3 hP1.lt
  have hs3 : w.heap.size + 1 + 1 + 1 ≤ w3.heap.size := Nat.le_trans hs1 hb3.size
  obtain ⟨w4, hw4⟩ : ∃ w4, w4 = w3.alloc (.cells #[.int .u8 8, .int .i64 (na : Int), .int .i64 (nb : Int), .int .i64 xc, .int .i64 (ns : Int)] 33) := ⟨_, rfl⟩
  obtain ⟨Y, hY⟩ : ∃ Y, Y = w3.heap.size := ⟨_, rfl⟩
  have hB4 : Below w.heap.size w w4 := by rw [hw4]; exact hB3.alloc hB3.size _
  have hF4 : FrAt w4 (w.heap.size + 1) f := by rw [hw4]; exact hF3.alloc _
  have hZ4 : FrAt w4 (w.heap.size + 1 + 1) Fra.zero := by rw [hw4]; exact hZ3.alloc _
  have hP4 : Blk w4 w.heap.size 26 #[v1, v2, (.slice (some ⟨b, off, none⟩) p.sites.length c0)] := by rw [hw4]; exact hP3.alloc _
  have hY4 : Blk w4 Y 33 #[.int .u8 8, .int .i64 (na : Int), .int .i64 (nb : Int), .int .i64 xc, .int .i64 (ns : Int)] := by rw [hw4, hY]; exact blk_new w3 _ _
  have hs4 : w4.heap.size = Y + 1 := by rw [hw4, hY]; simp
  have hYl : w.heap.size + 1 + 1 < Y := by omega
  clear hB1 hP1 hF1 hZ1 hs1 hb3 hB3 hF3 hZ3 hP3 hs3
  have hloc : Calls Try.prog 27 #[.int .u8 8] w4 fun e w' => e = .returned (.bool false) ∧ w' = w4 := by have := rlocal_any 8 w4; rw [hl] at this; exact this
  rw [hw4] at hloc
  have hpc := at_pc hs hx
  have hwp : IntKind.i64.wrap (f.p + 1) = f.p + 1 := by rw [IntKind.wrap_i64]; omega
  have y0 := hY4.cell (k := 0) (v := .int .u8 8) rfl
  rw [hw4, hY] at y0
  obtain ⟨q0, q1, q2, q3, q4, q5, q6, q7, q8, q9⟩ := fra_cells hF4
  rw [hw4] at q0 q1 q2 q3 q4 q5 q6 q7 q8 q9
  have hFv : FrAt (w4.alloc (.cells #[.int .i64 f.r0, .int .i64 f.r1, .int .i64 f.r2, .int .i64 f.r3, .int .i64 f.r4, .int .i64 f.r5, .int .i64 f.r6, .int .i64 f.r7] 27)) (w.heap.size + 1) f := hF4.alloc _
  obtain ⟨u0, u1, u2, u3, u4, u5, u6, u7, u8, u9⟩ := fra_cells hFv
  rw [hw4] at u0 u1 u2 u3 u4 u5 u6 u7 u8 u9
  obtain ⟨w5, hw5⟩ : ∃ w5, w5 = (w4.alloc (.cells #[.int .i64 f.r0, .int .i64 f.r1, .int .i64 f.r2, .int .i64 f.r3, .int .i64 f.r4, .int .i64 f.r5, .int .i64 f.r6, .int .i64 f.r7] 27)).alloc (.cells #[.int .i64 f.c, .int .i64 (f.p + 1), .int .i64 f.r0, .int .i64 f.r1, .int .i64 f.r2, .int .i64 f.r3, .int .i64 f.r4, .int .i64 f.r5, .int .i64 f.r6, .int .i64 f.r7] 29) := ⟨_, rfl⟩
  have hB5 : Below w.heap.size w w5 := by rw [hw5]; exact (hB4.alloc hB4.size _).alloc (Nat.le_trans hB4.size (by simp)) _
  have hF5 : FrAt w5 (w.heap.size + 1) f := by rw [hw5]; exact (hF4.alloc _).alloc _
  have hP5 : Blk w5 w.heap.size 26 #[v1, v2, (.slice (some ⟨b, off, none⟩) p.sites.length c0)] := by rw [hw5]; exact (hP4.alloc _).alloc _
  have hZ5 : FrAt w5 (w.heap.size + 1 + 1) Fra.zero := by rw [hw5]; exact (hZ4.alloc _).alloc _
  have hY5 : Blk w5 Y 33 #[.int .u8 8, .int .i64 (na : Int), .int .i64 (nb : Int), .int .i64 xc, .int .i64 (ns : Int)] := by rw [hw5]; exact (hY4.alloc _).alloc _
  have hR5 : Blk w5 (Y + 1) 27 (regA f) := by rw [hw5]; exact (blk_at hs4.symm).alloc _
  have hG5 : FrAt w5 (Y + 1 + 1) (f.goto (f.p + 1)) := by rw [hw5]; exact blk_at (by simp [hs4])
  have hs5 : w5.heap.size = Y + 1 + 1 + 1 := by rw [hw5]; simp [hs4]
  rw [hw4] at hw5
  go_upto_region 8 with (go_at_call 27; refine hloc.mono ?_; rintro e w' ⟨rfl, rfl⟩)
  rw [← hw5, ← hY]
  clear hF4 hZ4 hY4 hP4 hs4 hB4 hw4 hw5 hY hloc y0 hwp hpc hFv q0 q1 q2 q3 q4 q5 q6 q7 q8 q9 u0 u1 u2 u3 u4 u5 u6 u7 u8 u9
  have hc5 := cell_stay hcw (hB5.block b hbh)
  have hd5 := cell_stay hdw (hB5.block b hbh)
  have p2 := hP5.cell (k := 2) (v := (.slice (some ⟨b, off, none⟩) p.sites.length c0)) rfl
  have y0 := hY5.cell (k := 0) (v := .int .u8 8) rfl
  have y4 := hY5.cell (k := 4) (v := .int .i64 (ns : Int)) rfl
  obtain ⟨w6, hw6⟩ : ∃ w6, w6 = w5.alloc (.cells #[.slice (some ⟨b2, off2, none⟩) s.cs.length rc, .bool s.d] 55) := ⟨_, rfl⟩
  have hB6 : Below w.heap.size w w6 := by rw [hw6]; exact hB5.alloc hB5.size _
  have hZ6 : FrAt w6 (w.heap.size + 1 + 1) Fra.zero := by rw [hw6]; exact hZ5.alloc _
  have hY6 : Blk w6 Y 33 #[.int .u8 8, .int .i64 (na : Int), .int .i64 (nb : Int), .int .i64 xc, .int .i64 (ns : Int)] := by rw [hw6]; exact hY5.alloc _
  have hR6 : Blk w6 (Y + 1) 27 (regA f) := by rw [hw6]; exact hR5.alloc _
  have hG6 : FrAt w6 (Y + 1 + 1) (f.goto (f.p + 1)) := by rw [hw6]; exact hG5.alloc _
  obtain ⟨T, hT⟩ : ∃ T, T = w5.heap.size := ⟨_, rfl⟩
  have hTl : Y + 1 + 1 < T := by rw [hT, hs5]; exact Nat.lt_succ_self _
  have hT6 : Blk w6 T 55 #[.slice (some ⟨b2, off2, none⟩) s.cs.length rc, .bool s.d] := by rw [hw6, hT]; exact blk_new w5 _ _
  have t0 := hT6.cell (k := 0) (v := .slice (some ⟨b2, off2, none⟩) s.cs.length rc) rfl
  have t1 := hT6.cell (k := 1) (v := .bool s.d) rfl
  rw [hw6, hT] at t0 t1
  clear hs5 hcw hdw hF5 hP5 hB5 hZ5 hG5
  have e0 := cell_stay dw0 (hB6.block b2 hb2h)
  rw [hw6] at e0
  obtain ⟨F3, hF3⟩ : ∃ F3, F3 = f.put nb (m : Int) := ⟨_, rfl⟩
  have hHc3 : F3.c = (f.goto (f.p + 1)).c := by rw [hF3, put_c]; rfl
  have c3 : Calls Try.prog 34 #[.agg #[.int .i64 f.r0, .int .i64 f.r1, .int .i64 f.r2, .int .i64 f.r3, .int .i64 f.r4, .int .i64 f.r5, .int .i64 f.r6, .int .i64 f.r7], .int .i64 (nb : Int), .int .i64 (m : Int)] w6 fun e w' => e = .returned (.agg #[.int .i64 F3.r0, .int .i64 F3.r1, .int .i64 F3.r2, .int .i64 F3.r3, .int .i64 F3.r4, .int .i64 F3.r5, .int .i64 F3.r6, .int .i64 F3.r7]) ∧ Below w6.heap.size w6 w' := by rw [hF3]; exact rput_any f hnb _ w6
  have H3 := Lib.hid hF3
  clear hF3
  obtain ⟨r0, r1, r2, r3, r4, r5, r6, r7⟩ := reg_cells hR6
  have y2 := hY6.cell (k := 2) (v := .int .i64 (nb : Int)) rfl
  rw [hw6] at r0 r1 r2 r3 r4 r5 r6 r7 y2
  go_wp2_with fail
  rw [← hw6]
  refine c3.mono ?_
  clear c3 r0 r1 r2 r3 r4 r5 r6 r7 y2 hw6 hT t0 t1 hc5 hd5 p2 y0 y4 hT6 hR5 hY5 e0
  rintro e wd ⟨rfl, hbd⟩
  have hGd := hG6.later hbd hG6.lt
  have hZd := hZ6.later hbd hZ6.lt
  have hBd := below_next hB6 hbd (Nat.le_refl _)
  obtain ⟨g0, g1, g2, g3, g4, g5, g6, g7, g8, g9⟩ := fra_cells hGd
  have gf := hGd.frozen
  obtain ⟨w8, hw8, hG8, hb8⟩ : ∃ w8, w8 = ((((((((wd.setCell ⟨Y + 1 + 1, 2, none⟩ (.int .i64 F3.r0)).setCell ⟨Y + 1 + 1, 3, none⟩ (.int .i64 F3.r1)).setCell ⟨Y + 1 + 1, 4, none⟩ (.int .i64 F3.r2)).setCell ⟨Y + 1 + 1, 5, none⟩ (.int .i64 F3.r3)).setCell ⟨Y + 1 + 1, 6, none⟩ (.int .i64 F3.r4)).setCell ⟨Y + 1 + 1, 7, none⟩ (.int .i64 F3.r5)).setCell ⟨Y + 1 + 1, 8, none⟩ (.int .i64 F3.r6)).setCell ⟨Y + 1 + 1, 9, none⟩ (.int .i64 F3.r7)) ∧ FrAt w8 (Y + 1 + 1) (F3.goto (f.p + 1)) ∧ But [Y + 1 + 1] wd w8 := ⟨_, rfl, stoR hGd F3 hHc3⟩
  have hZ8 := but_on hZd hb8 (by omega)
  have hB8 := below_but hBd hb8 (Nat.le_refl _) (by omega)
  go_upto_region 22 with fail
  rw [← hw8]
  clear hw8 hb8 g0 g1 g2 g3 g4 g5 g6 g7 g8 g9 gf hGd hZd hBd hbd hB6 hZ6 hG6 hR6 hY6
  obtain ⟨K, hK⟩ : ∃ K, K = F3.goto (f.p + 1) := ⟨_, rfl⟩
  rw [← hK] at hG8
  have HK : Hid (K = doneG ⟨true, yc, (nv : Int), (no : Int)⟩ ⟨8, (na : Int), (nb : Int), xc, (ns : Int)⟩ f (m : Int) v ok) := Lib.hid (by rw [hK, H3.out, rsel_eq]; rfl)
  clear hK
  obtain ⟨g0, g1, g2, g3, g4, g5, g6, g7, g8, g9⟩ := fra_cells hG8
  obtain ⟨z0, z1, z2, z3, z4, z5, z6, z7, z8, z9⟩ := fra_cells hZ8
  have zf := hZ8.frozen
  obtain ⟨w9, hw9, hX9, hb9⟩ : ∃ w9, w9 = ((((((((((w8.setCell ⟨w.heap.size + 1 + 1, 0, none⟩ (.int .i64 K.c)).setCell ⟨w.heap.size + 1 + 1, 1, none⟩ (.int .i64 K.p)).setCell ⟨w.heap.size + 1 + 1, 2, none⟩ (.int .i64 K.r0)).setCell ⟨w.heap.size + 1 + 1, 3, none⟩ (.int .i64 K.r1)).setCell ⟨w.heap.size + 1 + 1, 4, none⟩ (.int .i64 K.r2)).setCell ⟨w.heap.size + 1 + 1, 5, none⟩ (.int .i64 K.r3)).setCell ⟨w.heap.size + 1 + 1, 6, none⟩ (.int .i64 K.r4)).setCell ⟨w.heap.size + 1 + 1, 7, none⟩ (.int .i64 K.r5)).setCell ⟨w.heap.size + 1 + 1, 8, none⟩ (.int .i64 K.r6)).setCell ⟨w.heap.size + 1 + 1, 9, none⟩ (.int .i64 K.r7)) ∧ Blk w9 (w.heap.size + 1 + 1) 29 (fraA K) ∧ But [w.heap.size + 1 + 1] w8 w9 := ⟨_, rfl, sto10 hZ8 (.int .i64 K.c) (.int .i64 K.p) (.int .i64 K.r0) (.int .i64 K.r1) (.int .i64 K.r2) (.int .i64 K.r3) (.int .i64 K.r4) (.int .i64 K.r5) (.int .i64 K.r6) (.int .i64 K.r7)⟩
  have hB9 := below_but hB8 hb9 (Nat.le_refl _) (by omega)
  go_wp2_with fail
  rw [← hw9]
  clear g0 g1 g2 g3 g4 g5 g6 g7 g8 g9
  obtain ⟨t0, t1, t2, t3, t4, t5, t6, t7, t8, t9⟩ := fra_cells hX9
  refine bodyPost_ret (v := .tuple #[fraV K, .int .i64 0]) (by simp [results, Try.f21, go_sem, t0, t1, t2, t3, t4, t5, t6, t7, t8, t9]) rfl ?_
  exact ⟨by rw [HK.out], hB9⟩
set_option maxRecDepth 100000 in
set_option maxHeartbeats 3200000 in
theorem rsel_d {lo hi : Nat} {v1 v2 : Value} {b off c0 : Nat} {p : Prg} (w : World) (h : PrgAt lo hi w v1 v2 (.slice (some ⟨b, off, none⟩) p.sites.length c0) p) (hs : Small p) (f : Fra) (v : Int) (ok : Bool) {na nb ns : Nat} {xc : Int} (hx : atF p f = some ⟨8, (na : Int), (nb : Int), xc, (ns : Int)⟩) (hl : locO 8 = false) {s : Sit} {ra : Option Addr} {rc : Nat} (hns : ns < p.sites.length) (hbh : b < w.heap.size) (hcw : w.cell? ⟨b, off + ns * 2, none⟩ = some (.slice ra s.cs.length rc)) (hdw : w.cell? ⟨b, off + ns * 2 + 1, none⟩ = some (.bool true)) (hnb : nb < 8) :
    Calls Try.prog 21 #[.agg #[v1, v2, (.slice (some ⟨b, off, none⟩) p.sites.length c0)], fraV f, .int .i64 (s.cs.length : Int), .int .i64 v, .bool ok] w fun e w' => e = .returned (.tuple #[fraV (doneG noRec ⟨8, (na : Int), (nb : Int), xc, (ns : Int)⟩ f (s.cs.length : Int) v ok), .int .i64 0]) ∧ Below w.heap.size w w' := by
  have n0 : (0 : Int) ≤ (ns : Int) := by omega
  have n2 : (ns : Int) < (p.sites.length : Int) := by omega
  have kd0 : decide ((s.cs.length : Int) < 0) = false := decide_eq_false (by omega)
  have kd1 : ¬ (s.cs.length : Int) < 0 := by omega
  obtain ⟨wf, hwf⟩ : ∃ wf, wf = ((w.alloc (.cells #[v1, v2, (.slice (some ⟨b, off, none⟩) p.sites.length c0)] 26)).alloc (.cells (fraA f) 29)).alloc (.cells (fraA Fra.zero) 29) := ⟨_, rfl⟩
  have hB : Below w.heap.size w wf := by rw [hwf]; exact below3 w _ _ _
  have hP : Blk wf w.heap.size 26 #[v1, v2, (.slice (some ⟨b, off, none⟩) p.sites.length c0)] := by rw [hwf]; exact ((blk_new w _ _).alloc _).alloc _
  have hF : FrAt wf (w.heap.size + 1) f := by rw [hwf]; exact (blk_at (by simp)).alloc _
  have hZ : FrAt wf (w.heap.size + 1 + 1) Fra.zero := by rw [hwf]; exact blk_at (by simp)
  have hsz : wf.heap.size = w.heap.size + 1 + 1 + 1 := by rw [hwf]; simp
  have hc := rmay_any wf (h.later hB) hs f
  go_enter Try.func21, Try.ntmps21
  go_wp2_with fail
  rw [show (#[.int .i64 0, .int .i64 0, .int .i64 0, .int .i64 0, .int .i64 0, .int .i64 0, .int .i64 0, .int .i64 0, .int .i64 0, .int .i64 0] : Array Value) = fraA Fra.zero from rfl, ← hwf]
  clear hwf
  refine hc.mono ?_
  rintro e w1 ⟨rfl, hb⟩
  have hB1 := below_next hB hb (Nat.le_refl _)
  have hP1 := hP.later hb hP.lt
  have hF1 := hF.later hb hF.lt
  have hZ1 := hZ.later hb hZ.lt
  have hs1 : w.heap.size + 1 + 1 + 1 ≤ w1.heap.size := by rw [← hsz]; exact hb.size
  clear hc hB hb hP hF hZ hsz
  have hat : Calls Try.prog 12 #[.agg #[v1, v2, (.slice (some ⟨b, off, none⟩) p.sites.length c0)], fraV f] w1 fun e w' => e = .returned (.agg #[.int .u8 8, .int .i64 (na : Int), .int .i64 (nb : Int), .int .i64 xc, .int .i64 (ns : Int)]) ∧ Below w1.heap.size w1 w' := rat_any w1 (h.later hB1) f hx
  rw [hx, show (some ⟨8, (na : Int), (nb : Int), xc, (ns : Int)⟩ : Option In).isSome = true from rfl]
  have p0 := hP1.cell (k := 0) (v := v1) rfl
  have p1 := hP1.cell (k := 1) (v := v2) rfl
  have p2 := hP1.cell (k := 2) (v := (.slice (some ⟨b, off, none⟩) p.sites.length c0)) rfl
  obtain ⟨q0, q1, q2, q3, q4, q5, q6, q7, q8, q9⟩ := fra_cells hF1
  go_wp2_with fail
  refine hat.mono ?_
  clear hat p0 p1 p2 q0 q1 q2 q3 q4 q5 q6 q7 q8 q9
  rintro e w3 ⟨rfl, hb3⟩
  have hB3 := below_next hB1 hb3 (Nat.le_refl _)
  have hF3 := hF1.later hb3 hF1.lt
  have hZ3 := hZ1.later hb3 hZ1.lt
  have hP3 := hP1.later hb3 hP1.lt
  have hs3 : w.heap.size + 1 + 1 + 1 ≤ w3.heap.size := Nat.le_trans hs1 hb3.size
  obtain ⟨w4, hw4⟩ : ∃ w4, w4 = w3.alloc (.cells #[.int .u8 8, .int .i64 (na : Int), .int .i64 (nb : Int), .int .i64 xc, .int .i64 (ns : Int)] 33) := ⟨_, rfl⟩
  obtain ⟨Y, hY⟩ : ∃ Y, Y = w3.heap.size := ⟨_, rfl⟩
  have hB4 : Below w.heap.size w w4 := by rw [hw4]; exact hB3.alloc hB3.size _
  have hF4 : FrAt w4 (w.heap.size + 1) f := by rw [hw4]; exact hF3.alloc _
  have hZ4 : FrAt w4 (w.heap.size + 1 + 1) Fra.zero := by rw [hw4]; exact hZ3.alloc _
  have hP4 : Blk w4 w.heap.size 26 #[v1, v2, (.slice (some ⟨b, off, none⟩) p.sites.length c0)] := by rw [hw4]; exact hP3.alloc _
  have hY4 : Blk w4 Y 33 #[.int .u8 8, .int .i64 (na : Int), .int .i64 (nb : Int), .int .i64 xc, .int .i64 (ns : Int)] := by rw [hw4, hY]; exact blk_new w3 _ _
  have hs4 : w4.heap.size = Y + 1 := by rw [hw4, hY]; simp
  have hYl : w.heap.size + 1 + 1 < Y := by omega
  clear hB1 hP1 hF1 hZ1 hs1 hb3 hB3 hF3 hZ3 hP3 hs3
  have hloc : Calls Try.prog 27 #[.int .u8 8] w4 fun e w' => e = .returned (.bool false) ∧ w' = w4 := by have := rlocal_any 8 w4; rw [hl] at this; exact this
  rw [hw4] at hloc
  have hpc := at_pc hs hx
  have hwp : IntKind.i64.wrap (f.p + 1) = f.p + 1 := by rw [IntKind.wrap_i64]; omega
  have y0 := hY4.cell (k := 0) (v := .int .u8 8) rfl
  rw [hw4, hY] at y0
  obtain ⟨q0, q1, q2, q3, q4, q5, q6, q7, q8, q9⟩ := fra_cells hF4
  rw [hw4] at q0 q1 q2 q3 q4 q5 q6 q7 q8 q9
  have hFv : FrAt (w4.alloc (.cells #[.int .i64 f.r0, .int .i64 f.r1, .int .i64 f.r2, .int .i64 f.r3, .int .i64 f.r4, .int .i64 f.r5, .int .i64 f.r6, .int .i64 f.r7] 27)) (w.heap.size + 1) f := hF4.alloc _
  obtain ⟨u0, u1, u2, u3, u4, u5, u6, u7, u8, u9⟩ := fra_cells hFv
  rw [hw4] at u0 u1 u2 u3 u4 u5 u6 u7 u8 u9
  obtain ⟨w5, hw5⟩ : ∃ w5, w5 = (w4.alloc (.cells #[.int .i64 f.r0, .int .i64 f.r1, .int .i64 f.r2, .int .i64 f.r3, .int .i64 f.r4, .int .i64 f.r5, .int .i64 f.r6, .int .i64 f.r7] 27)).alloc (.cells #[.int .i64 f.c, .int .i64 (f.p + 1), .int .i64 f.r0, .int .i64 f.r1, .int .i64 f.r2, .int .i64 f.r3, .int .i64 f.r4, .int .i64 f.r5, .int .i64 f.r6, .int .i64 f.r7] 29) := ⟨_, rfl⟩
  have hB5 : Below w.heap.size w w5 := by rw [hw5]; exact (hB4.alloc hB4.size _).alloc (Nat.le_trans hB4.size (by simp)) _
  have hF5 : FrAt w5 (w.heap.size + 1) f := by rw [hw5]; exact (hF4.alloc _).alloc _
  have hP5 : Blk w5 w.heap.size 26 #[v1, v2, (.slice (some ⟨b, off, none⟩) p.sites.length c0)] := by rw [hw5]; exact (hP4.alloc _).alloc _
  have hZ5 : FrAt w5 (w.heap.size + 1 + 1) Fra.zero := by rw [hw5]; exact (hZ4.alloc _).alloc _
  have hY5 : Blk w5 Y 33 #[.int .u8 8, .int .i64 (na : Int), .int .i64 (nb : Int), .int .i64 xc, .int .i64 (ns : Int)] := by rw [hw5]; exact (hY4.alloc _).alloc _
  have hR5 : Blk w5 (Y + 1) 27 (regA f) := by rw [hw5]; exact (blk_at hs4.symm).alloc _
  have hG5 : FrAt w5 (Y + 1 + 1) (f.goto (f.p + 1)) := by rw [hw5]; exact blk_at (by simp [hs4])
  have hs5 : w5.heap.size = Y + 1 + 1 + 1 := by rw [hw5]; simp [hs4]
  rw [hw4] at hw5
  go_upto_region 8 with (go_at_call 27; refine hloc.mono ?_; rintro e w' ⟨rfl, rfl⟩)
  rw [← hw5, ← hY]
  clear hF4 hZ4 hY4 hP4 hs4 hB4 hw4 hw5 hY hloc y0 hwp hpc hFv q0 q1 q2 q3 q4 q5 q6 q7 q8 q9 u0 u1 u2 u3 u4 u5 u6 u7 u8 u9
  have hc5 := cell_stay hcw (hB5.block b hbh)
  have hd5 := cell_stay hdw (hB5.block b hbh)
  have p2 := hP5.cell (k := 2) (v := (.slice (some ⟨b, off, none⟩) p.sites.length c0)) rfl
  have y0 := hY5.cell (k := 0) (v := .int .u8 8) rfl
  have y4 := hY5.cell (k := 4) (v := .int .i64 (ns : Int)) rfl
  obtain ⟨w6, hw6⟩ : ∃ w6, w6 = w5.alloc (.cells #[.slice ra s.cs.length rc, .bool true] 55) := ⟨_, rfl⟩
  have hB6 : Below w.heap.size w w6 := by rw [hw6]; exact hB5.alloc hB5.size _
  have hZ6 : FrAt w6 (w.heap.size + 1 + 1) Fra.zero := by rw [hw6]; exact hZ5.alloc _
  have hY6 : Blk w6 Y 33 #[.int .u8 8, .int .i64 (na : Int), .int .i64 (nb : Int), .int .i64 xc, .int .i64 (ns : Int)] := by rw [hw6]; exact hY5.alloc _
  have hR6 : Blk w6 (Y + 1) 27 (regA f) := by rw [hw6]; exact hR5.alloc _
  have hG6 : FrAt w6 (Y + 1 + 1) (f.goto (f.p + 1)) := by rw [hw6]; exact hG5.alloc _
  obtain ⟨T, hT⟩ : ∃ T, T = w5.heap.size := ⟨_, rfl⟩
  have hTl : Y + 1 + 1 < T := by rw [hT, hs5]; exact Nat.lt_succ_self _
  have hT6 : Blk w6 T 55 #[.slice ra s.cs.length rc, .bool true] := by rw [hw6, hT]; exact blk_new w5 _ _
  have t0 := hT6.cell (k := 0) (v := .slice ra s.cs.length rc) rfl
  have t1 := hT6.cell (k := 1) (v := .bool true) rfl
  rw [hw6, hT] at t0 t1
  clear hs5 hcw hdw hF5 hP5 hB5 hZ5 hG5
  obtain ⟨F3, hF3⟩ : ∃ F3, F3 = f.put nb (s.cs.length : Int) := ⟨_, rfl⟩
  have hHc3 : F3.c = (f.goto (f.p + 1)).c := by rw [hF3, put_c]; rfl
  have c3 : Calls Try.prog 34 #[.agg #[.int .i64 f.r0, .int .i64 f.r1, .int .i64 f.r2, .int .i64 f.r3, .int .i64 f.r4, .int .i64 f.r5, .int .i64 f.r6, .int .i64 f.r7], .int .i64 (nb : Int), .int .i64 (s.cs.length : Int)] w6 fun e w' => e = .returned (.agg #[.int .i64 F3.r0, .int .i64 F3.r1, .int .i64 F3.r2, .int .i64 F3.r3, .int .i64 F3.r4, .int .i64 F3.r5, .int .i64 F3.r6, .int .i64 F3.r7]) ∧ Below w6.heap.size w6 w' := by rw [hF3]; exact rput_any f hnb _ w6
  have H3 := Lib.hid hF3
  clear hF3
  obtain ⟨r0, r1, r2, r3, r4, r5, r6, r7⟩ := reg_cells hR6
  have y2 := hY6.cell (k := 2) (v := .int .i64 (nb : Int)) rfl
  rw [hw6] at r0 r1 r2 r3 r4 r5 r6 r7 y2
  go_wp2_with fail
  rw [← hw6]
  refine c3.mono ?_
  clear c3 r0 r1 r2 r3 r4 r5 r6 r7 y2 hw6 hT t0 t1 hc5 hd5 p2 y0 y4 hT6 hR5 hY5
  rintro e wd ⟨rfl, hbd⟩
  have hGd := hG6.later hbd hG6.lt
  have hZd := hZ6.later hbd hZ6.lt
  have hBd := below_next hB6 hbd (Nat.le_refl _)
  obtain ⟨g0, g1, g2, g3, g4, g5, g6, g7, g8, g9⟩ := fra_cells hGd
  have gf := hGd.frozen
  obtain ⟨w8, hw8, hG8, hb8⟩ : ∃ w8, w8 = ((((((((wd.setCell ⟨Y + 1 + 1, 2, none⟩ (.int .i64 F3.r0)).setCell ⟨Y + 1 + 1, 3, none⟩ (.int .i64 F3.r1)).setCell ⟨Y + 1 + 1, 4, none⟩ (.int .i64 F3.r2)).setCell ⟨Y + 1 + 1, 5, none⟩ (.int .i64 F3.r3)).setCell ⟨Y + 1 + 1, 6, none⟩ (.int .i64 F3.r4)).setCell ⟨Y + 1 + 1, 7, none⟩ (.int .i64 F3.r5)).setCell ⟨Y + 1 + 1, 8, none⟩ (.int .i64 F3.r6)).setCell ⟨Y + 1 + 1, 9, none⟩ (.int .i64 F3.r7)) ∧ FrAt w8 (Y + 1 + 1) (F3.goto (f.p + 1)) ∧ But [Y + 1 + 1] wd w8 := ⟨_, rfl, stoR hGd F3 hHc3⟩
  have hZ8 := but_on hZd hb8 (by omega)
  have hB8 := below_but hBd hb8 (Nat.le_refl _) (by omega)
  go_upto_region 22 with fail
  rw [← hw8]
  clear hw8 hb8 g0 g1 g2 g3 g4 g5 g6 g7 g8 g9 gf hGd hZd hBd hbd hB6 hZ6 hG6 hR6 hY6
  obtain ⟨K, hK⟩ : ∃ K, K = F3.goto (f.p + 1) := ⟨_, rfl⟩
  rw [← hK] at hG8
  have HK : Hid (K = doneG noRec ⟨8, (na : Int), (nb : Int), xc, (ns : Int)⟩ f (s.cs.length : Int) v ok) := Lib.hid (by rw [hK, H3.out, rsel_eq]; rfl)
  clear hK
  obtain ⟨g0, g1, g2, g3, g4, g5, g6, g7, g8, g9⟩ := fra_cells hG8
  obtain ⟨z0, z1, z2, z3, z4, z5, z6, z7, z8, z9⟩ := fra_cells hZ8
  have zf := hZ8.frozen
  obtain ⟨w9, hw9, hX9, hb9⟩ : ∃ w9, w9 = ((((((((((w8.setCell ⟨w.heap.size + 1 + 1, 0, none⟩ (.int .i64 K.c)).setCell ⟨w.heap.size + 1 + 1, 1, none⟩ (.int .i64 K.p)).setCell ⟨w.heap.size + 1 + 1, 2, none⟩ (.int .i64 K.r0)).setCell ⟨w.heap.size + 1 + 1, 3, none⟩ (.int .i64 K.r1)).setCell ⟨w.heap.size + 1 + 1, 4, none⟩ (.int .i64 K.r2)).setCell ⟨w.heap.size + 1 + 1, 5, none⟩ (.int .i64 K.r3)).setCell ⟨w.heap.size + 1 + 1, 6, none⟩ (.int .i64 K.r4)).setCell ⟨w.heap.size + 1 + 1, 7, none⟩ (.int .i64 K.r5)).setCell ⟨w.heap.size + 1 + 1, 8, none⟩ (.int .i64 K.r6)).setCell ⟨w.heap.size + 1 + 1, 9, none⟩ (.int .i64 K.r7)) ∧ Blk w9 (w.heap.size + 1 + 1) 29 (fraA K) ∧ But [w.heap.size + 1 + 1] w8 w9 := ⟨_, rfl, sto10 hZ8 (.int .i64 K.c) (.int .i64 K.p) (.int .i64 K.r0) (.int .i64 K.r1) (.int .i64 K.r2) (.int .i64 K.r3) (.int .i64 K.r4) (.int .i64 K.r5) (.int .i64 K.r6) (.int .i64 K.r7)⟩
  have hB9 := below_but hB8 hb9 (Nat.le_refl _) (by omega)
  go_wp2_with fail
  rw [← hw9]
  clear g0 g1 g2 g3 g4 g5 g6 g7 g8 g9
  obtain ⟨t0, t1, t2, t3, t4, t5, t6, t7, t8, t9⟩ := fra_cells hX9
  refine bodyPost_ret (v := .tuple #[fraV K, .int .i64 0]) (by simp [results, Try.f21, go_sem, t0, t1, t2, t3, t4, t5, t6, t7, t8, t9]) rfl ?_
  exact ⟨by rw [HK.out], hB9⟩
set_option maxRecDepth 100000 in
set_option maxHeartbeats 3200000 in
theorem rsel_r {lo hi : Nat} {v1 v2 : Value} {b off c0 : Nat} {p : Prg} (w : World) (h : PrgAt lo hi w v1 v2 (.slice (some ⟨b, off, none⟩) p.sites.length c0) p) (hs : Small p) (f : Fra) (v : Int) (ok : Bool) {na nb ns : Nat} {xc : Int} (hx : atF p f = some ⟨8, (na : Int), (nb : Int), xc, (ns : Int)⟩) (hl : locO 8 = false) {s : Sit} {m b2 off2 : Nat} {rc : Nat} (hns : ns < p.sites.length) (hbh : b < w.heap.size) (hcw : w.cell? ⟨b, off + ns * 2, none⟩ = some (.slice (some ⟨b2, off2, none⟩) s.cs.length rc)) (hdw : w.cell? ⟨b, off + ns * 2 + 1, none⟩ = some (.bool s.d)) (hm : m < s.cs.length) (hb2h : b2 < w.heap.size) {yc : Int} {nv no : Nat} (hnv : nv < 8) (hno : no < 8) (dw0 : w.cell? ⟨b2, off2 + m * 4, none⟩ = some (.bool false)) (dw2 : w.cell? ⟨b2, off2 + m * 4 + 2, none⟩ = some (.int .i64 (nv : Int))) (dw3 : w.cell? ⟨b2, off2 + m * 4 + 3, none⟩ = some (.int .i64 (no : Int))) (hnb : nb < 8) :
    Calls Try.prog 21 #[.agg #[v1, v2, (.slice (some ⟨b, off, none⟩) p.sites.length c0)], fraV f, .int .i64 (m : Int), .int .i64 v, .bool ok] w fun e w' => e = .returned (.tuple #[fraV (doneG ⟨false, yc, (nv : Int), (no : Int)⟩ ⟨8, (na : Int), (nb : Int), xc, (ns : Int)⟩ f (m : Int) v ok), .int .i64 0]) ∧ Below w.heap.size w w' := by
  have n0 : (0 : Int) ≤ (ns : Int) := by omega
  have n2 : (ns : Int) < (p.sites.length : Int) := by omega
  have m0 : (0 : Int) ≤ (m : Int) := by omega
  have m1 : (m : Int) < (s.cs.length : Int) := by omega
  have kd0 : decide ((m : Int) < 0) = false := decide_eq_false (by omega)
  have kd1 : decide ((s.cs.length : Int) < (m : Int)) = false := decide_eq_false (by omega)
  have kd2 : ((m : Int) == (s.cs.length : Int)) = false := by simp; omega
  have kd3 : decide ((m : Int) < (s.cs.length : Int)) = true := decide_eq_true m1
  obtain ⟨wf, hwf⟩ : ∃ wf, wf = ((w.alloc (.cells #[v1, v2, (.slice (some ⟨b, off, none⟩) p.sites.length c0)] 26)).alloc (.cells (fraA f) 29)).alloc (.cells (fraA Fra.zero) 29) := ⟨_, rfl⟩
  have hB : Below w.heap.size w wf := by rw [hwf]; exact below3 w _ _ _
  have hP : Blk wf w.heap.size 26 #[v1, v2, (.slice (some ⟨b, off, none⟩) p.sites.length c0)] := by rw [hwf]; exact ((blk_new w _ _).alloc _).alloc _
  have hF : FrAt wf (w.heap.size + 1) f := by rw [hwf]; exact (blk_at (by simp)).alloc _
  have hZ : FrAt wf (w.heap.size + 1 + 1) Fra.zero := by rw [hwf]; exact blk_at (by simp)
  have hsz : wf.heap.size = w.heap.size + 1 + 1 + 1 := by rw [hwf]; simp
  have hc := rmay_any wf (h.later hB) hs f
  go_enter Try.func21, Try.ntmps21
  go_wp2_with fail
  rw [show (#[.int .i64 0, .int .i64 0, .int .i64 0, .int .i64 0, .int .i64 0, .int .i64 0, .int .i64 0, .int .i64 0, .int .i64 0, .int .i64 0] : Array Value) = fraA Fra.zero from rfl, ← hwf]
  clear hwf
  refine hc.mono ?_
  rintro e w1 ⟨rfl, hb⟩
  have hB1 := below_next hB hb (Nat.le_refl _)
  have hP1 := hP.later hb hP.lt
  have hF1 := hF.later hb hF.lt
  have hZ1 := hZ.later hb hZ.lt
  have hs1 : w.heap.size + 1 + 1 + 1 ≤ w1.heap.size := by rw [← hsz]; exact hb.size
  clear hc hB hb hP hF hZ hsz
  have hat : Calls Try.prog 12 #[.agg #[v1, v2, (.slice (some ⟨b, off, none⟩) p.sites.length c0)], fraV f] w1 fun e w' => e = .returned (.agg #[.int .u8 8, .int .i64 (na : Int), .int .i64 (nb : Int), .int .i64 xc, .int .i64 (ns : Int)]) ∧ Below w1.heap.size w1 w' := rat_any w1 (h.later hB1) f hx
  rw [hx, show (some ⟨8, (na : Int), (nb : Int), xc, (ns : Int)⟩ : Option In).isSome = true from rfl]
  have p0 := hP1.cell (k := 0) (v := v1) rfl
  have p1 := hP1.cell (k := 1) (v := v2) rfl
  have p2 := hP1.cell (k := 2) (v := (.slice (some ⟨b, off, none⟩) p.sites.length c0)) rfl
  obtain ⟨q0, q1, q2, q3, q4, q5, q6, q7, q8, q9⟩ := fra_cells hF1
  go_wp2_with fail
  refine hat.mono ?_
  clear hat p0 p1 p2 q0 q1 q2 q3 q4 q5 q6 q7 q8 q9
  rintro e w3 ⟨rfl, hb3⟩
  have hB3 := below_next hB1 hb3 (Nat.le_refl _)
  have hF3 := hF1.later hb3 hF1.lt
  have hZ3 := hZ1.later hb3 hZ1.lt
  have hP3 := hP1.later hb3 hP1.lt
  have hs3 : w.heap.size + 1 + 1 + 1 ≤ w3.heap.size := Nat.le_trans hs1 hb3.size
  obtain ⟨w4, hw4⟩ : ∃ w4, w4 = w3.alloc (.cells #[.int .u8 8, .int .i64 (na : Int), .int .i64 (nb : Int), .int .i64 xc, .int .i64 (ns : Int)] 33) := ⟨_, rfl⟩
  obtain ⟨Y, hY⟩ : ∃ Y, Y = w3.heap.size := ⟨_, rfl⟩
  have hB4 : Below w.heap.size w w4 := by rw [hw4]; exact hB3.alloc hB3.size _
  have hF4 : FrAt w4 (w.heap.size + 1) f := by rw [hw4]; exact hF3.alloc _
  have hZ4 : FrAt w4 (w.heap.size + 1 + 1) Fra.zero := by rw [hw4]; exact hZ3.alloc _
  have hP4 : Blk w4 w.heap.size 26 #[v1, v2, (.slice (some ⟨b, off, none⟩) p.sites.length c0)] := by rw [hw4]; exact hP3.alloc _
  have hY4 : Blk w4 Y 33 #[.int .u8 8, .int .i64 (na : Int), .int .i64 (nb : Int), .int .i64 xc, .int .i64 (ns : Int)] := by rw [hw4, hY]; exact blk_new w3 _ _
  have hs4 : w4.heap.size = Y + 1 := by rw [hw4, hY]; simp
  have hYl : w.heap.size + 1 + 1 < Y := by omega
  clear hB1 hP1 hF1 hZ1 hs1 hb3 hB3 hF3 hZ3 hP3 hs3
  have hloc : Calls Try.prog 27 #[.int .u8 8] w4 fun e w' => e = .returned (.bool false) ∧ w' = w4 := by have := rlocal_any 8 w4; rw [hl] at this; exact this
  rw [hw4] at hloc
  have hpc := at_pc hs hx
  have hwp : IntKind.i64.wrap (f.p + 1) = f.p + 1 := by rw [IntKind.wrap_i64]; omega
  have y0 := hY4.cell (k := 0) (v := .int .u8 8) rfl
  rw [hw4, hY] at y0
  obtain ⟨q0, q1, q2, q3, q4, q5, q6, q7, q8, q9⟩ := fra_cells hF4
  rw [hw4] at q0 q1 q2 q3 q4 q5 q6 q7 q8 q9
  have hFv : FrAt (w4.alloc (.cells #[.int .i64 f.r0, .int .i64 f.r1, .int .i64 f.r2, .int .i64 f.r3, .int .i64 f.r4, .int .i64 f.r5, .int .i64 f.r6, .int .i64 f.r7] 27)) (w.heap.size + 1) f := hF4.alloc _
  obtain ⟨u0, u1, u2, u3, u4, u5, u6, u7, u8, u9⟩ := fra_cells hFv
  rw [hw4] at u0 u1 u2 u3 u4 u5 u6 u7 u8 u9
  obtain ⟨w5, hw5⟩ : ∃ w5, w5 = (w4.alloc (.cells #[.int .i64 f.r0, .int .i64 f.r1, .int .i64 f.r2, .int .i64 f.r3, .int .i64 f.r4, .int .i64 f.r5, .int .i64 f.r6, .int .i64 f.r7] 27)).alloc (.cells #[.int .i64 f.c, .int .i64 (f.p + 1), .int .i64 f.r0, .int .i64 f.r1, .int .i64 f.r2, .int .i64 f.r3, .int .i64 f.r4, .int .i64 f.r5, .int .i64 f.r6, .int .i64 f.r7] 29) := ⟨_, rfl⟩
  have hB5 : Below w.heap.size w w5 := by rw [hw5]; exact (hB4.alloc hB4.size _).alloc (Nat.le_trans hB4.size (by simp)) _
  have hF5 : FrAt w5 (w.heap.size + 1) f := by rw [hw5]; exact (hF4.alloc _).alloc _
  have hP5 : Blk w5 w.heap.size 26 #[v1, v2, (.slice (some ⟨b, off, none⟩) p.sites.length c0)] := by rw [hw5]; exact (hP4.alloc _).alloc _
  have hZ5 : FrAt w5 (w.heap.size + 1 + 1) Fra.zero := by rw [hw5]; exact (hZ4.alloc _).alloc _
  have hY5 : Blk w5 Y 33 #[.int .u8 8, .int .i64 (na : Int), .int .i64 (nb : Int), .int .i64 xc, .int .i64 (ns : Int)] := by rw [hw5]; exact (hY4.alloc _).alloc _
  have hR5 : Blk w5 (Y + 1) 27 (regA f) := by rw [hw5]; exact (blk_at hs4.symm).alloc _
  have hG5 : FrAt w5 (Y + 1 + 1) (f.goto (f.p + 1)) := by rw [hw5]; exact blk_at (by simp [hs4])
  have hs5 : w5.heap.size = Y + 1 + 1 + 1 := by rw [hw5]; simp [hs4]
  rw [hw4] at hw5
  go_upto_region 8 with (go_at_call 27; refine hloc.mono ?_; rintro e w' ⟨rfl, rfl⟩)
  rw [← hw5, ← hY]
  clear hF4 hZ4 hY4 hP4 hs4 hB4 hw4 hw5 hY hloc y0 hwp hpc hFv q0 q1 q2 q3 q4 q5 q6 q7 q8 q9 u0 u1 u2 u3 u4 u5 u6 u7 u8 u9
  have hc5 := cell_stay hcw (hB5.block b hbh)
  have hd5 := cell_stay hdw (hB5.block b hbh)
  have p2 := hP5.cell (k := 2) (v := (.slice (some ⟨b, off, none⟩) p.sites.length c0)) rfl
  have y0 := hY5.cell (k := 0) (v := .int .u8 8) rfl
  have y4 := hY5.cell (k := 4) (v := .int .i64 (ns : Int)) rfl
  obtain ⟨w6, hw6⟩ : ∃ w6, w6 = w5.alloc (.cells #[.slice (some ⟨b2, off2, none⟩) s.cs.length rc, .bool s.d] 55) := ⟨_, rfl⟩
  have hB6 : Below w.heap.size w w6 := by rw [hw6]; exact hB5.alloc hB5.size _
  have hZ6 : FrAt w6 (w.heap.size + 1 + 1) Fra.zero := by rw [hw6]; exact hZ5.alloc _
  have hY6 : Blk w6 Y 33 #[.int .u8 8, .int .i64 (na : Int), .int .i64 (nb : Int), .int .i64 xc, .int .i64 (ns : Int)] := by rw [hw6]; exact hY5.alloc _
  have hR6 : Blk w6 (Y + 1) 27 (regA f) := by rw [hw6]; exact hR5.alloc _
  have hG6 : FrAt w6 (Y + 1 + 1) (f.goto (f.p + 1)) := by rw [hw6]; exact hG5.alloc _
  obtain ⟨T, hT⟩ : ∃ T, T = w5.heap.size := ⟨_, rfl⟩
  have hTl : Y + 1 + 1 < T := by rw [hT, hs5]; exact Nat.lt_succ_self _
  have hT6 : Blk w6 T 55 #[.slice (some ⟨b2, off2, none⟩) s.cs.length rc, .bool s.d] := by rw [hw6, hT]; exact blk_new w5 _ _
  have t0 := hT6.cell (k := 0) (v := .slice (some ⟨b2, off2, none⟩) s.cs.length rc) rfl
  have t1 := hT6.cell (k := 1) (v := .bool s.d) rfl
  rw [hw6, hT] at t0 t1
  clear hs5 hcw hdw hF5 hP5 hB5 hZ5 hG5
  have e0 := cell_stay dw0 (hB6.block b2 hb2h)
  rw [hw6] at e0
  have e2 := cell_stay dw2 (hB6.block b2 hb2h)
  have e3 := cell_stay dw3 (hB6.block b2 hb2h)
  obtain ⟨fl, hfl⟩ : ∃ fl : Int, fl = if ok then 1 else 0 := ⟨_, rfl⟩
  obtain ⟨F1, hF1⟩ : ∃ F1, F1 = f.put nv v := ⟨_, rfl⟩
  obtain ⟨F2, hF2⟩ : ∃ F2, F2 = F1.put no fl := ⟨_, rfl⟩
  have HF2c : Hid (F2.c = f.c) := Lib.hid (by rw [hF2, put_c, hF1, put_c])
  have cf : ∀ W, Calls Try.prog 35 #[.bool ok] W fun e w' => e = .returned (.int .i64 fl) ∧ w' = W := fun W => by rw [hfl]; exact rflag_any ok W
  have c1 : ∀ W, Below w6.heap.size w6 W → Calls Try.prog 34 #[.agg #[.int .i64 f.r0, .int .i64 f.r1, .int .i64 f.r2, .int .i64 f.r3, .int .i64 f.r4, .int .i64 f.r5, .int .i64 f.r6, .int .i64 f.r7], .int .i64 (nv : Int), .int .i64 v] W fun e w' => e = .returned (.agg #[.int .i64 F1.r0, .int .i64 F1.r1, .int .i64 F1.r2, .int .i64 F1.r3, .int .i64 F1.r4, .int .i64 F1.r5, .int .i64 F1.r6, .int .i64 F1.r7]) ∧ Below w6.heap.size w6 w' := fun W hW => by
    rw [hF1]
    exact (rput_any f hnv v W).mono fun e w' ⟨h1, h2⟩ => ⟨h1, below_next hW h2 (Nat.le_refl _)⟩
  have c2 : ∀ W, Below w6.heap.size w6 W → Calls Try.prog 34 #[.agg #[.int .i64 F1.r0, .int .i64 F1.r1, .int .i64 F1.r2, .int .i64 F1.r3, .int .i64 F1.r4, .int .i64 F1.r5, .int .i64 F1.r6, .int .i64 F1.r7], .int .i64 (no : Int), .int .i64 fl] W fun e w' => e = .returned (.agg #[.int .i64 F2.r0, .int .i64 F2.r1, .int .i64 F2.r2, .int .i64 F2.r3, .int .i64 F2.r4, .int .i64 F2.r5, .int .i64 F2.r6, .int .i64 F2.r7]) ∧ Below w6.heap.size w6 w' := fun W hW => by
    rw [hF2]
    exact (rput_any F1 hno fl W).mono fun e w' ⟨h1, h2⟩ => ⟨h1, below_next hW h2 (Nat.le_refl _)⟩
  have HFL := Lib.hid hfl
  have H1 := Lib.hid hF1
  have H2 := Lib.hid hF2
  clear hfl hF1 hF2
  have hlY := hY6.lt
  have hkS : ∀ W, But [Y + 1] w6 W → W.cell? ⟨T, 0, none⟩ = some (.slice (some ⟨b2, off2, none⟩) s.cs.length rc) ∧ W.cell? ⟨b2, off2 + m * 4 + 2, none⟩ = some (.int .i64 (nv : Int)) ∧ W.cell? ⟨b2, off2 + m * 4 + 3, none⟩ = some (.int .i64 (no : Int)) := fun W hW => by
    have hTW := but_on hT6 hW (by omega)
    have hbW := hW.block b2 (Nat.lt_of_lt_of_le hb2h hB6.size) (by simp; omega)
    exact ⟨hTW.cell rfl, cell_stay e2 hbW, cell_stay e3 hbW⟩
  have hkb : ∀ W, Below w6.heap.size w6 W → But [Y + 1] w6 W := fun W hW => .of_below hW _
  have hkR : ∀ W, Below w6.heap.size w6 W → Blk W (Y + 1) 27 (regA f) := fun W hW => hR6.later hW hR6.lt
  have hkG : ∀ W, Below w6.heap.size w6 W → FrAt W (Y + 1 + 1) (f.goto (f.p + 1)) := fun W hW => hG6.later hW hG6.lt
  have hkZ : ∀ W, Below w6.heap.size w6 W → FrAt W (w.heap.size + 1 + 1) Fra.zero := fun W hW => hZ6.later hW hZ6.lt
  have hkY : ∀ W, Below w6.heap.size w6 W → Blk W Y 33 #[.int .u8 8, .int .i64 (na : Int), .int .i64 (nb : Int), .int .i64 xc, .int .i64 (ns : Int)] := fun W hW => hY6.later hW hY6.lt
  have nv0 : (0 : Int) ≤ (nv : Int) := by omega
  obtain ⟨x0, x1, x2, x3, x4, x5, x6, x7⟩ := reg_cells hR6
  go_wp2_with fail
  rw [← hw6, ← hT]
  clear hw6 hT t0 t1 hc5 hd5 p2 y0 y4 e0 hR5 hY5 hT6 e2 e3 hG6 hZ6 hY6 hR6
  rw [show Op.load 27 (Operand.tmp 13) = ld13 from rfl]
  go_region_held3 (fun w' => w'.cell? ⟨T, 0, none⟩ = some (.slice (some ⟨b2, off2, none⟩) s.cs.length rc) ∧ w'.cell? ⟨b2, off2 + m * 4 + 2, none⟩ = some (.int .i64 (nv : Int)) ∧ w'.cell? ⟨b2, off2 + m * 4 + 3, none⟩ = some (.int .i64 (no : Int)))
    (refine hkS _ ?_ <;> with_reducible first | exact hkb _ hb3 | exact (sto8 hR3 _ _ _ _ _ _ _ _).2.after hb3 | exact hkb _ hb2 | exact hkb _ (drew_below' _))
    ((first
      | (go_at_call 35; refine (cf _).mono ?_; rintro e wq ⟨rfl, rfl⟩)
      | (go_at_call 34; with_reducible refine (c1 _ (by with_reducible first | exact drew_below' _)).mono ?_; rintro e w2 ⟨rfl, hb2⟩)
      | (go_at_call 34; with_reducible refine (c2 _ (by with_reducible first | exact hb2)).mono ?_; rintro e w3 ⟨rfl, hb3⟩; have hR3 := hkR _ hb3; obtain ⟨g0, g1, g2, g3, g4, g5, g6, g7⟩ := reg_cells hR3; have gf := hR3.frozen)))
  all_goals obtain ⟨w7, hw7, hR7, hb7⟩ : ∃ w7, w7 = ((((((((w3.setCell ⟨Y + 1, 0, none⟩ (.int .i64 F2.r0)).setCell ⟨Y + 1, 1, none⟩ (.int .i64 F2.r1)).setCell ⟨Y + 1, 2, none⟩ (.int .i64 F2.r2)).setCell ⟨Y + 1, 3, none⟩ (.int .i64 F2.r3)).setCell ⟨Y + 1, 4, none⟩ (.int .i64 F2.r4)).setCell ⟨Y + 1, 5, none⟩ (.int .i64 F2.r5)).setCell ⟨Y + 1, 6, none⟩ (.int .i64 F2.r6)).setCell ⟨Y + 1, 7, none⟩ (.int .i64 F2.r7)) ∧ Blk w7 (Y + 1) 27 (regA F2) ∧ But [Y + 1] w3 w7 := ⟨_, rfl, sto8 hR3 (.int .i64 F2.r0) (.int .i64 F2.r1) (.int .i64 F2.r2) (.int .i64 F2.r3) (.int .i64 F2.r4) (.int .i64 F2.r5) (.int .i64 F2.r6) (.int .i64 F2.r7)⟩
  all_goals rw [← hw7]
  all_goals have hG7 := but_on (hkG _ hb3) hb7 (by omega)
  all_goals have hZ7 := but_on (hkZ _ hb3) hb7 (by omega)
  all_goals have hY7 := but_on (hkY _ hb3) hb7 (by omega)
  all_goals have hB7 := below_but (below_next hB6 hb3 (Nat.le_refl _)) hb7 (Nat.le_refl _) (by omega)
  all_goals clear g0 g1 g2 g3 g4 g5 g6 g7 gf c1 c2 cf hkS hkb hkG hkR hkZ hkY hw7 hb7 hb3 hb2 hR3 x0 x1 x2 x3 x4 x5 x6 x7
  all_goals obtain ⟨F3, hF3⟩ : ∃ F3, F3 = F2.put nb (m : Int) := ⟨_, rfl⟩
  all_goals have hHc3 : F3.c = (f.goto (f.p + 1)).c := by rw [hF3, put_c, HF2c.out]; rfl
  all_goals have c3 : Calls Try.prog 34 #[.agg #[.int .i64 F2.r0, .int .i64 F2.r1, .int .i64 F2.r2, .int .i64 F2.r3, .int .i64 F2.r4, .int .i64 F2.r5, .int .i64 F2.r6, .int .i64 F2.r7], .int .i64 (nb : Int), .int .i64 (m : Int)] w7 fun e w' => e = .returned (.agg #[.int .i64 F3.r0, .int .i64 F3.r1, .int .i64 F3.r2, .int .i64 F3.r3, .int .i64 F3.r4, .int .i64 F3.r5, .int .i64 F3.r6, .int .i64 F3.r7]) ∧ Below w7.heap.size w7 w' := by rw [hF3]; exact rput_any F2 hnb _ w7
  all_goals have H3 := Lib.hid hF3
  all_goals clear hF3
  all_goals obtain ⟨r0, r1, r2, r3, r4, r5, r6, r7⟩ := reg_cells hR7
  all_goals have y2 := hY7.cell (k := 2) (v := .int .i64 (nb : Int)) rfl
  all_goals go_wp2_with fail
  all_goals refine c3.mono ?_
  all_goals clear c3 r0 r1 r2 r3 r4 r5 r6 r7 y2
  all_goals rintro e wd ⟨rfl, hbd⟩
  all_goals have hGd := hG7.later hbd hG7.lt
  all_goals have hZd := hZ7.later hbd hZ7.lt
  all_goals have hBd := below_next hB7 hbd (Nat.le_refl _)
  all_goals obtain ⟨g0, g1, g2, g3, g4, g5, g6, g7, g8, g9⟩ := fra_cells hGd
  all_goals have gf := hGd.frozen
  all_goals obtain ⟨w8, hw8, hG8, hb8⟩ : ∃ w8, w8 = ((((((((wd.setCell ⟨Y + 1 + 1, 2, none⟩ (.int .i64 F3.r0)).setCell ⟨Y + 1 + 1, 3, none⟩ (.int .i64 F3.r1)).setCell ⟨Y + 1 + 1, 4, none⟩ (.int .i64 F3.r2)).setCell ⟨Y + 1 + 1, 5, none⟩ (.int .i64 F3.r3)).setCell ⟨Y + 1 + 1, 6, none⟩ (.int .i64 F3.r4)).setCell ⟨Y + 1 + 1, 7, none⟩ (.int .i64 F3.r5)).setCell ⟨Y + 1 + 1, 8, none⟩ (.int .i64 F3.r6)).setCell ⟨Y + 1 + 1, 9, none⟩ (.int .i64 F3.r7)) ∧ FrAt w8 (Y + 1 + 1) (F3.goto (f.p + 1)) ∧ But [Y + 1 + 1] wd w8 := ⟨_, rfl, stoR hGd F3 hHc3⟩
  all_goals have hZ8 := but_on hZd hb8 (by omega)
  all_goals have hB8 := below_but hBd hb8 (Nat.le_refl _) (by omega)
  all_goals go_upto_region 22 with fail
  all_goals rw [← hw8]
  all_goals clear hw8 hb8 g0 g1 g2 g3 g4 g5 g6 g7 g8 g9 gf hGd hZd hBd hbd hB7 hZ7 hG7 hR7 hY7
  all_goals obtain ⟨K, hK⟩ : ∃ K, K = F3.goto (f.p + 1) := ⟨_, rfl⟩
  all_goals rw [← hK] at hG8
  all_goals have HK : Hid (K = doneG ⟨false, yc, (nv : Int), (no : Int)⟩ ⟨8, (na : Int), (nb : Int), xc, (ns : Int)⟩ f (m : Int) v ok) := Lib.hid (by rw [hK, H3.out, rsel_eq]; rw [H2.out, H1.out, HFL.out]; rfl)
  all_goals clear hK
  all_goals obtain ⟨g0, g1, g2, g3, g4, g5, g6, g7, g8, g9⟩ := fra_cells hG8
  all_goals obtain ⟨z0, z1, z2, z3, z4, z5, z6, z7, z8, z9⟩ := fra_cells hZ8
  all_goals have zf := hZ8.frozen
  all_goals obtain ⟨w9, hw9, hX9, hb9⟩ : ∃ w9, w9 = ((((((((((w8.setCell ⟨w.heap.size + 1 + 1, 0, none⟩ (.int .i64 K.c)).setCell ⟨w.heap.size + 1 + 1, 1, none⟩ (.int .i64 K.p)).setCell ⟨w.heap.size + 1 + 1, 2, none⟩ (.int .i64 K.r0)).setCell ⟨w.heap.size + 1 + 1, 3, none⟩ (.int .i64 K.r1)).setCell ⟨w.heap.size + 1 + 1, 4, none⟩ (.int .i64 K.r2)).setCell ⟨w.heap.size + 1 + 1, 5, none⟩ (.int .i64 K.r3)).setCell ⟨w.heap.size + 1 + 1, 6, none⟩ (.int .i64 K.r4)).setCell ⟨w.heap.size + 1 + 1, 7, none⟩ (.int .i64 K.r5)).setCell ⟨w.heap.size + 1 + 1, 8, none⟩ (.int .i64 K.r6)).setCell ⟨w.heap.size + 1 + 1, 9, none⟩ (.int .i64 K.r7)) ∧ Blk w9 (w.heap.size + 1 + 1) 29 (fraA K) ∧ But [w.heap.size + 1 + 1] w8 w9 := ⟨_, rfl, sto10 hZ8 (.int .i64 K.c) (.int .i64 K.p) (.int .i64 K.r0) (.int .i64 K.r1) (.int .i64 K.r2) (.int .i64 K.r3) (.int .i64 K.r4) (.int .i64 K.r5) (.int .i64 K.r6) (.int .i64 K.r7)⟩
  all_goals have hB9 := below_but hB8 hb9 (Nat.le_refl _) (by omega)
  all_goals go_wp2_with fail
  all_goals rw [← hw9]
  all_goals clear g0 g1 g2 g3 g4 g5 g6 g7 g8 g9
  all_goals obtain ⟨t0, t1, t2, t3, t4, t5, t6, t7, t8, t9⟩ := fra_cells hX9
  all_goals refine bodyPost_ret (v := .tuple #[fraV K, .int .i64 0]) (by simp [results, Try.f21, go_sem, t0, t1, t2, t3, t4, t5, t6, t7, t8, t9]) rfl ?_
  all_goals exact ⟨by rw [HK.out], hB9⟩
end Go.Proofs.Ytplajidagpimdaa
