/-
  The walk of the document's own Done.
-/
import Derived.Test.YtplajidagpimdaaHRefB
import Derived.Test.YtplajidagpimdaaHDoneA
namespace Go.Proofs.Ytplajidagpimdaa
open Go.RowKit

set_option maxRecDepth 100000 in
theorem rflag_any (b : Bool) (w : World) : Calls Try.prog 35 #[.bool b] w fun e w' => e = .returned (.int .i64 (if b then 1 else 0)) ∧ w' = w := by
  go_enter Try.func35, Try.ntmps35
  cases b
  · go_wp2_with fail
    go_ret
    exact ⟨rfl, rfl⟩
  · go_wp2_with fail
    go_ret
    exact ⟨rfl, rfl⟩

set_option maxRecDepth 100000 in
set_option maxHeartbeats 1600000 in
theorem rput_any (g : Fra) {n : Nat} (hn : n < 8) (v : Int) (w : World) :
    Calls Try.prog 34 #[.agg #[.int .i64 g.r0, .int .i64 g.r1, .int .i64 g.r2, .int .i64 g.r3, .int .i64 g.r4, .int .i64 g.r5, .int .i64 g.r6, .int .i64 g.r7], .int .i64 (n : Int), .int .i64 v] w fun e w' => e = .returned (.agg #[.int .i64 (g.put n v).r0, .int .i64 (g.put n v).r1, .int .i64 (g.put n v).r2, .int .i64 (g.put n v).r3, .int .i64 (g.put n v).r4, .int .i64 (g.put n v).r5, .int .i64 (g.put n v).r6, .int .i64 (g.put n v).r7]) ∧ Below w.heap.size w w' := by
  obtain ⟨wf, hwf⟩ : ∃ wf, wf = (w.alloc (.cells #[.int .i64 g.r0, .int .i64 g.r1, .int .i64 g.r2, .int .i64 g.r3, .int .i64 g.r4, .int .i64 g.r5, .int .i64 g.r6, .int .i64 g.r7] 27)).alloc (.cells #[.int .i64 0, .int .i64 0, .int .i64 0, .int .i64 0, .int .i64 0, .int .i64 0, .int .i64 0, .int .i64 0] 27) := ⟨_, rfl⟩
  have hB : Below w.heap.size w wf := by rw [hwf]; exact below2 w _ _
  have hR : Blk wf w.heap.size 27 (regA g) := by rw [hwf]; exact (blk_new w _ _).alloc _
  have hZ : Blk wf (w.heap.size + 1) 27 (regA Fra.zero) := by rw [hwf]; exact blk_at (by simp)
  have hra : ∀ W, Calls Try.prog 28 #[.int .i64 (n : Int)] W fun e w' => e = .returned (.bool true) ∧ w' = W := fun W => by
    have := rreg_any (n : Int) W
    rw [regB_iff.2 ⟨by omega, by omega⟩] at this
    exact this
  have n0 : (0 : Int) ≤ (n : Int) := by omega
  have n1 : (n : Int) < 8 := by omega
  go_enter Try.func34, Try.ntmps34
  go_wp2_with fail
  rw [← hwf]
  clear hwf
  refine (hra _).mono ?_
  clear hra
  rintro e wf ⟨rfl, rfl⟩
  have rn := reg_cell hR hn
  have rf := hR.frozen n
  obtain ⟨w1, hw1⟩ : ∃ w1, w1 = wf.setCell ⟨w.heap.size, n, none⟩ (.int .i64 v) := ⟨_, rfl⟩
  obtain ⟨g1, hg1⟩ : ∃ g1, g1 = g.put n v := ⟨_, rfl⟩
  have hR1 : Blk w1 w.heap.size 27 (regA g1) := by rw [hw1, hg1]; exact reg_put hR hn _
  have hZ1 : Blk w1 (w.heap.size + 1) 27 (regA Fra.zero) := by rw [hw1]; exact hZ.beside (by simp) _
  have hB1 : Below w.heap.size w w1 := by rw [hw1]; exact hB.setCell (by simp) _
  have HG := Lib.hid hg1
  clear hg1 hB hZ
  go_upto_region 3 with fail
  rw [← hw1]
  clear hw1 rn rf hR
  obtain ⟨r0, r1, r2, r3, r4, r5, r6, r7⟩ := reg_cells hR1
  obtain ⟨z0, z1, z2, z3, z4, z5, z6, z7⟩ := reg_cells hZ1
  have zf := hZ1.frozen
  obtain ⟨w5, hw5, hX5, hb5⟩ : ∃ w5, w5 = ((((((((w1.setCell ⟨w.heap.size + 1, 0, none⟩ (.int .i64 g1.r0)).setCell ⟨w.heap.size + 1, 1, none⟩ (.int .i64 g1.r1)).setCell ⟨w.heap.size + 1, 2, none⟩ (.int .i64 g1.r2)).setCell ⟨w.heap.size + 1, 3, none⟩ (.int .i64 g1.r3)).setCell ⟨w.heap.size + 1, 4, none⟩ (.int .i64 g1.r4)).setCell ⟨w.heap.size + 1, 5, none⟩ (.int .i64 g1.r5)).setCell ⟨w.heap.size + 1, 6, none⟩ (.int .i64 g1.r6)).setCell ⟨w.heap.size + 1, 7, none⟩ (.int .i64 g1.r7)) ∧ Blk w5 (w.heap.size + 1) 27 (regA g1) ∧ But [w.heap.size + 1] w1 w5 := ⟨_, rfl, sto8 hZ1 (.int .i64 g1.r0) (.int .i64 g1.r1) (.int .i64 g1.r2) (.int .i64 g1.r3) (.int .i64 g1.r4) (.int .i64 g1.r5) (.int .i64 g1.r6) (.int .i64 g1.r7)⟩
  have hB5 := below_but hB1 hb5 (Nat.le_refl _) (by omega)
  go_wp2_with fail
  rw [← hw5]
  clear r0 r1 r2 r3 r4 r5 r6 r7
  obtain ⟨r0, r1, r2, r3, r4, r5, r6, r7⟩ := reg_cells hX5
  refine bodyPost_ret (v := .agg #[.int .i64 g1.r0, .int .i64 g1.r1, .int .i64 g1.r2, .int .i64 g1.r3, .int .i64 g1.r4, .int .i64 g1.r5, .int .i64 g1.r6, .int .i64 g1.r7]) (by simp [results, Try.f34, go_sem, r0, r1, r2, r3, r4, r5, r6, r7]) rfl ?_
  exact ⟨by rw [HG.out], hB5⟩

set_option maxRecDepth 100000 in
set_option maxHeartbeats 3200000 in
theorem rdone_none {lo hi : Nat} {v1 v2 v3 : Value} {p : Prg} (w : World) (h : PrgAt lo hi w v1 v2 v3 p) (hs : Small p) (f : Fra) (k v : Int) (ok : Bool) (hx : atF p f = none) :
    Calls Try.prog 21 #[.agg #[v1, v2, v3], fraV f, .int .i64 k, .int .i64 v, .bool ok] w fun e w' => e = .returned (.tuple #[fraV Fra.zero, .int .i64 2]) ∧ Below w.heap.size w w' := by
  obtain ⟨wf, hwf⟩ : ∃ wf, wf = ((w.alloc (.cells #[v1, v2, v3] 26)).alloc (.cells (fraA f) 29)).alloc (.cells (fraA Fra.zero) 29) := ⟨_, rfl⟩
  have hB : Below w.heap.size w wf := by rw [hwf]; exact below3 w _ _ _
  have hP : Blk wf w.heap.size 26 #[v1, v2, v3] := by rw [hwf]; exact ((blk_new w _ _).alloc _).alloc _
  have hF : FrAt wf (w.heap.size + 1) f := by rw [hwf]; exact (blk_at (by simp)).alloc _
  have hZ : FrAt wf (w.heap.size + 1 + 1) Fra.zero := by rw [hwf]; exact blk_at (by simp)
  have hsz : wf.heap.size = w.heap.size + 1 + 1 + 1 := by rw [hwf]; simp
  have hc := rmay_any wf (h.later hB) hs f
  go_enter Try.func21, Try.ntmps21
  go_wp2_with fail
  rw [show (#[.int .i64 0, .int .i64 0, .int .i64 0, .int .i64 0, .int .i64 0, .int .i64 0, .int .i64 0, .int .i64 0, .int .i64 0, .int .i64 0] : Array Value) = fraA Fra.zero from rfl, ← hwf]
  clear hwf
  refine hc.mono ?_
  rintro e w1 ⟨rfl, hb⟩
  have hB1 := below_next hB hb (Nat.le_refl _)
  have hP1 := hP.later hb hP.lt
  have hF1 := hF.later hb hF.lt
  have hZ1 := hZ.later hb hZ.lt
  have hs1 : w.heap.size + 1 + 1 + 1 ≤ w1.heap.size := by rw [← hsz]; exact hb.size
  clear hc hB hb hP hF hZ hsz
  rw [hx, show (none : Option In).isSome = false from rfl]
  obtain ⟨z0, z1, z2, z3, z4, z5, z6, z7, z8, z9⟩ := fra_cells hZ1
  have zf := hZ1.frozen
  obtain ⟨w9, hw9, hX9, hb9⟩ : ∃ w9, w9 = ((((((((((w1.setCell ⟨w.heap.size + 1 + 1, 0, none⟩ (.int .i64 0)).setCell ⟨w.heap.size + 1 + 1, 1, none⟩ (.int .i64 0)).setCell ⟨w.heap.size + 1 + 1, 2, none⟩ (.int .i64 0)).setCell ⟨w.heap.size + 1 + 1, 3, none⟩ (.int .i64 0)).setCell ⟨w.heap.size + 1 + 1, 4, none⟩ (.int .i64 0)).setCell ⟨w.heap.size + 1 + 1, 5, none⟩ (.int .i64 0)).setCell ⟨w.heap.size + 1 + 1, 6, none⟩ (.int .i64 0)).setCell ⟨w.heap.size + 1 + 1, 7, none⟩ (.int .i64 0)).setCell ⟨w.heap.size + 1 + 1, 8, none⟩ (.int .i64 0)).setCell ⟨w.heap.size + 1 + 1, 9, none⟩ (.int .i64 0)) ∧ Blk w9 (w.heap.size + 1 + 1) 29 (fraA Fra.zero) ∧ But [w.heap.size + 1 + 1] w1 w9 := ⟨_, rfl, sto10 hZ1 (.int .i64 0) (.int .i64 0) (.int .i64 0) (.int .i64 0) (.int .i64 0) (.int .i64 0) (.int .i64 0) (.int .i64 0) (.int .i64 0) (.int .i64 0)⟩
  have hB9 := below_but hB1 hb9 (Nat.le_refl _) (by omega)
  go_wp2_with fail
  rw [← hw9]
  obtain ⟨t0, t1, t2, t3, t4, t5, t6, t7, t8, t9⟩ := fra_cells hX9
  refine bodyPost_ret (v := .tuple #[fraV Fra.zero, .int .i64 2]) (by simp [results, Try.f21, go_sem, t0, t1, t2, t3, t4, t5, t6, t7, t8, t9, Fra.zero]) rfl ?_
  exact ⟨rfl, hB9⟩
set_option maxRecDepth 100000 in
set_option maxHeartbeats 3200000 in
theorem rdone_local {lo hi : Nat} {v1 v2 v3 : Value} {p : Prg} (w : World) (h : PrgAt lo hi w v1 v2 v3 p) (hs : Small p) (f : Fra) (k v : Int) (ok : Bool) {x : In} (hx : atF p f = some x) (hl : locO x.o = true) :
    Calls Try.prog 21 #[.agg #[v1, v2, v3], fraV f, .int .i64 k, .int .i64 v, .bool ok] w fun e w' => e = .returned (.tuple #[fraV Fra.zero, .int .i64 8]) ∧ Below w.heap.size w w' := by
  obtain ⟨wf, hwf⟩ : ∃ wf, wf = ((w.alloc (.cells #[v1, v2, v3] 26)).alloc (.cells (fraA f) 29)).alloc (.cells (fraA Fra.zero) 29) := ⟨_, rfl⟩
  have hB : Below w.heap.size w wf := by rw [hwf]; exact below3 w _ _ _
  have hP : Blk wf w.heap.size 26 #[v1, v2, v3] := by rw [hwf]; exact ((blk_new w _ _).alloc _).alloc _
  have hF : FrAt wf (w.heap.size + 1) f := by rw [hwf]; exact (blk_at (by simp)).alloc _
  have hZ : FrAt wf (w.heap.size + 1 + 1) Fra.zero := by rw [hwf]; exact blk_at (by simp)
  have hsz : wf.heap.size = w.heap.size + 1 + 1 + 1 := by rw [hwf]; simp
  have hc := rmay_any wf (h.later hB) hs f
  go_enter Try.func21, Try.ntmps21
  go_wp2_with fail
  rw [show (#[.int .i64 0, .int .i64 0, .int .i64 0, .int .i64 0, .int .i64 0, .int .i64 0, .int .i64 0, .int .i64 0, .int .i64 0, .int .i64 0] : Array Value) = fraA Fra.zero from rfl, ← hwf]
  clear hwf
  refine hc.mono ?_
  rintro e w1 ⟨rfl, hb⟩
  have hB1 := below_next hB hb (Nat.le_refl _)
  have hP1 := hP.later hb hP.lt
  have hF1 := hF.later hb hF.lt
  have hZ1 := hZ.later hb hZ.lt
  have hs1 : w.heap.size + 1 + 1 + 1 ≤ w1.heap.size := by rw [← hsz]; exact hb.size
  clear hc hB hb hP hF hZ hsz
  have hat : Calls Try.prog 12 #[.agg #[v1, v2, v3], fraV f] w1 fun e w' => e = .returned (.agg #[.int .u8 (x.o : Int), .int .i64 x.a, .int .i64 x.b, .int .i64 x.c, .int .i64 x.k]) ∧ Below w1.heap.size w1 w' := rat_any w1 (h.later hB1) f hx
  rw [hx, show (some x : Option In).isSome = true from rfl]
  have p0 := hP1.cell (k := 0) (v := v1) rfl
  have p1 := hP1.cell (k := 1) (v := v2) rfl
  have p2 := hP1.cell (k := 2) (v := v3) rfl
  obtain ⟨q0, q1, q2, q3, q4, q5, q6, q7, q8, q9⟩ := fra_cells hF1
  go_wp2_with fail
  refine hat.mono ?_
  clear hat p0 p1 p2 q0 q1 q2 q3 q4 q5 q6 q7 q8 q9
  rintro e w3 ⟨rfl, hb3⟩
  have hB3 := below_next hB1 hb3 (Nat.le_refl _)
  have hF3 := hF1.later hb3 hF1.lt
  have hZ3 := hZ1.later hb3 hZ1.lt
  have hP3 := hP1.later hb3 hP1.lt
  have hs3 : w.heap.size + 1 + 1 + 1 ≤ w3.heap.size := Nat.le_trans hs1 hb3.size
  obtain ⟨w4, hw4⟩ : ∃ w4, w4 = w3.alloc (.cells #[.int .u8 (x.o : Int), .int .i64 x.a, .int .i64 x.b, .int .i64 x.c, .int .i64 x.k] 33) := ⟨_, rfl⟩
  obtain ⟨Y, hY⟩ : ∃ Y, Y = w3.heap.size := ⟨_, rfl⟩
  have hB4 : Below w.heap.size w w4 := by rw [hw4]; exact hB3.alloc hB3.size _
  have hF4 : FrAt w4 (w.heap.size + 1) f := by rw [hw4]; exact hF3.alloc _
  have hZ4 : FrAt w4 (w.heap.size + 1 + 1) Fra.zero := by rw [hw4]; exact hZ3.alloc _
  have hP4 : Blk w4 w.heap.size 26 #[v1, v2, v3] := by rw [hw4]; exact hP3.alloc _
  have hY4 : Blk w4 Y 33 #[.int .u8 (x.o : Int), .int .i64 x.a, .int .i64 x.b, .int .i64 x.c, .int .i64 x.k] := by rw [hw4, hY]; exact blk_new w3 _ _
  have hs4 : w4.heap.size = Y + 1 := by rw [hw4, hY]; simp
  have hYl : w.heap.size + 1 + 1 < Y := by omega
  clear hB1 hP1 hF1 hZ1 hs1 hb3 hB3 hF3 hZ3 hP3 hs3
  have hloc := rlocal_any x.o w4
  rw [hl, hw4] at hloc
  have y0 := hY4.cell (k := 0) (v := .int .u8 (x.o : Int)) rfl
  rw [hw4, hY] at y0
  obtain ⟨z0, z1, z2, z3, z4, z5, z6, z7, z8, z9⟩ := fra_cells hZ4
  have zf := hZ4.frozen
  obtain ⟨w9, hw9, hX9, hb9⟩ : ∃ w9, w9 = ((((((((((w4.setCell ⟨w.heap.size + 1 + 1, 0, none⟩ (.int .i64 0)).setCell ⟨w.heap.size + 1 + 1, 1, none⟩ (.int .i64 0)).setCell ⟨w.heap.size + 1 + 1, 2, none⟩ (.int .i64 0)).setCell ⟨w.heap.size + 1 + 1, 3, none⟩ (.int .i64 0)).setCell ⟨w.heap.size + 1 + 1, 4, none⟩ (.int .i64 0)).setCell ⟨w.heap.size + 1 + 1, 5, none⟩ (.int .i64 0)).setCell ⟨w.heap.size + 1 + 1, 6, none⟩ (.int .i64 0)).setCell ⟨w.heap.size + 1 + 1, 7, none⟩ (.int .i64 0)).setCell ⟨w.heap.size + 1 + 1, 8, none⟩ (.int .i64 0)).setCell ⟨w.heap.size + 1 + 1, 9, none⟩ (.int .i64 0)) ∧ Blk w9 (w.heap.size + 1 + 1) 29 (fraA Fra.zero) ∧ But [w.heap.size + 1 + 1] w4 w9 := ⟨_, rfl, sto10 hZ4 (.int .i64 0) (.int .i64 0) (.int .i64 0) (.int .i64 0) (.int .i64 0) (.int .i64 0) (.int .i64 0) (.int .i64 0) (.int .i64 0) (.int .i64 0)⟩
  have hB9 := below_but hB4 hb9 (Nat.le_refl _) (by omega)
  rw [hw4] at z0 z1 z2 z3 z4 z5 z6 z7 z8 z9 zf hw9
  go_wp2_with (go_at_call 27; refine hloc.mono ?_; rintro e w' ⟨rfl, rfl⟩)
  rw [← hw9]
  obtain ⟨t0, t1, t2, t3, t4, t5, t6, t7, t8, t9⟩ := fra_cells hX9
  refine bodyPost_ret (v := .tuple #[fraV Fra.zero, .int .i64 8]) (by simp [results, Try.f21, go_sem, t0, t1, t2, t3, t4, t5, t6, t7, t8, t9, Fra.zero]) rfl ?_
  exact ⟨rfl, hB9⟩
set_option maxRecDepth 100000 in
set_option maxHeartbeats 3200000 in
theorem rdone_bad {lo hi : Nat} {v1 v2 v3 : Value} {p : Prg} (w : World) (h : PrgAt lo hi w v1 v2 v3 p) (hs : Small p) (f : Fra) (k v : Int) (ok : Bool) {x : In} (hx : atF p f = some x) (hl : locO x.o = false) (h8 : x.o ≠ 8) (hk : k ≠ -1) :
    Calls Try.prog 21 #[.agg #[v1, v2, v3], fraV f, .int .i64 k, .int .i64 v, .bool ok] w fun e w' => e = .returned (.tuple #[fraV Fra.zero, .int .i64 2]) ∧ Below w.heap.size w w' := by
  have d8 : ((x.o : Int) != 8) = true := by simp; omega
  have dk : (k != -1) = true := by simpa using hk
  have dk2 : (k == -1) = false := by simpa using hk
  have dk3 : ¬ k = -1 := hk
  clear h8 hk
  obtain ⟨wf, hwf⟩ : ∃ wf, wf = ((w.alloc (.cells #[v1, v2, v3] 26)).alloc (.cells (fraA f) 29)).alloc (.cells (fraA Fra.zero) 29) := ⟨_, rfl⟩
  have hB : Below w.heap.size w wf := by rw [hwf]; exact below3 w _ _ _
  have hP : Blk wf w.heap.size 26 #[v1, v2, v3] := by rw [hwf]; exact ((blk_new w _ _).alloc _).alloc _
  have hF : FrAt wf (w.heap.size + 1) f := by rw [hwf]; exact (blk_at (by simp)).alloc _
  have hZ : FrAt wf (w.heap.size + 1 + 1) Fra.zero := by rw [hwf]; exact blk_at (by simp)
  have hsz : wf.heap.size = w.heap.size + 1 + 1 + 1 := by rw [hwf]; simp
  have hc := rmay_any wf (h.later hB) hs f
  go_enter Try.func21, Try.ntmps21
  go_wp2_with fail
  rw [show (#[.int .i64 0, .int .i64 0, .int .i64 0, .int .i64 0, .int .i64 0, .int .i64 0, .int .i64 0, .int .i64 0, .int .i64 0, .int .i64 0] : Array Value) = fraA Fra.zero from rfl, ← hwf]
  clear hwf
  refine hc.mono ?_
  rintro e w1 ⟨rfl, hb⟩
  have hB1 := below_next hB hb (Nat.le_refl _)
  have hP1 := hP.later hb hP.lt
  have hF1 := hF.later hb hF.lt
  have hZ1 := hZ.later hb hZ.lt
  have hs1 : w.heap.size + 1 + 1 + 1 ≤ w1.heap.size := by rw [← hsz]; exact hb.size
  clear hc hB hb hP hF hZ hsz
  have hat : Calls Try.prog 12 #[.agg #[v1, v2, v3], fraV f] w1 fun e w' => e = .returned (.agg #[.int .u8 (x.o : Int), .int .i64 x.a, .int .i64 x.b, .int .i64 x.c, .int .i64 x.k]) ∧ Below w1.heap.size w1 w' := rat_any w1 (h.later hB1) f hx
  rw [hx, show (some x : Option In).isSome = true from rfl]
  have p0 := hP1.cell (k := 0) (v := v1) rfl
  have p1 := hP1.cell (k := 1) (v := v2) rfl
  have p2 := hP1.cell (k := 2) (v := v3) rfl
  obtain ⟨q0, q1, q2, q3, q4, q5, q6, q7, q8, q9⟩ := fra_cells hF1
  go_wp2_with fail
  refine hat.mono ?_
  clear hat p0 p1 p2 q0 q1 q2 q3 q4 q5 q6 q7 q8 q9
  rintro e w3 ⟨rfl, hb3⟩
  have hB3 := below_next hB1 hb3 (Nat.le_refl _)
  have hF3 := hF1.later hb3 hF1.lt
  have hZ3 := hZ1.later hb3 hZ1.lt
  have hP3 := hP1.later hb3 hP1.lt
  have hs3 : w.heap.size + 1 + 1 + 1 ≤ w3.heap.size := Nat.le_trans hs1 hb3.size
  obtain ⟨w4, hw4⟩ : ∃ w4, w4 = w3.alloc (.cells #[.int .u8 (x.o : Int), .int .i64 x.a, .int .i64 x.b, .int .i64 x.c, .int .i64 x.k] 33) := ⟨_, rfl⟩
  obtain ⟨Y, hY⟩ : ∃ Y, Y = w3.heap.size := ⟨_, rfl⟩
  have hB4 : Below w.heap.size w w4 := by rw [hw4]; exact hB3.alloc hB3.size _
  have hF4 : FrAt w4 (w.heap.size + 1) f := by rw [hw4]; exact hF3.alloc _
  have hZ4 : FrAt w4 (w.heap.size + 1 + 1) Fra.zero := by rw [hw4]; exact hZ3.alloc _
  have hP4 : Blk w4 w.heap.size 26 #[v1, v2, v3] := by rw [hw4]; exact hP3.alloc _
  have hY4 : Blk w4 Y 33 #[.int .u8 (x.o : Int), .int .i64 x.a, .int .i64 x.b, .int .i64 x.c, .int .i64 x.k] := by rw [hw4, hY]; exact blk_new w3 _ _
  have hs4 : w4.heap.size = Y + 1 := by rw [hw4, hY]; simp
  have hYl : w.heap.size + 1 + 1 < Y := by omega
  clear hB1 hP1 hF1 hZ1 hs1 hb3 hB3 hF3 hZ3 hP3 hs3
  have hloc : Calls Try.prog 27 #[.int .u8 (x.o : Int)] w4 fun e w' => e = .returned (.bool false) ∧ w' = w4 := by have := rlocal_any x.o w4; rw [hl] at this; exact this
  rw [hw4] at hloc
  have hpc := at_pc hs hx
  have hwp : IntKind.i64.wrap (f.p + 1) = f.p + 1 := by rw [IntKind.wrap_i64]; omega
  have y0 := hY4.cell (k := 0) (v := .int .u8 (x.o : Int)) rfl
  rw [hw4, hY] at y0
  obtain ⟨q0, q1, q2, q3, q4, q5, q6, q7, q8, q9⟩ := fra_cells hF4
  rw [hw4] at q0 q1 q2 q3 q4 q5 q6 q7 q8 q9
  have hFv : FrAt (w4.alloc (.cells #[.int .i64 f.r0, .int .i64 f.r1, .int .i64 f.r2, .int .i64 f.r3, .int .i64 f.r4, .int .i64 f.r5, .int .i64 f.r6, .int .i64 f.r7] 27)) (w.heap.size + 1) f := hF4.alloc _
  obtain ⟨u0, u1, u2, u3, u4, u5, u6, u7, u8, u9⟩ := fra_cells hFv
  rw [hw4] at u0 u1 u2 u3 u4 u5 u6 u7 u8 u9
  obtain ⟨w5, hw5⟩ : ∃ w5, w5 = (w4.alloc (.cells #[.int .i64 f.r0, .int .i64 f.r1, .int .i64 f.r2, .int .i64 f.r3, .int .i64 f.r4, .int .i64 f.r5, .int .i64 f.r6, .int .i64 f.r7] 27)).alloc (.cells #[.int .i64 f.c, .int .i64 (f.p + 1), .int .i64 f.r0, .int .i64 f.r1, .int .i64 f.r2, .int .i64 f.r3, .int .i64 f.r4, .int .i64 f.r5, .int .i64 f.r6, .int .i64 f.r7] 29) := ⟨_, rfl⟩
  have hB5 : Below w.heap.size w w5 := by rw [hw5]; exact (hB4.alloc hB4.size _).alloc (Nat.le_trans hB4.size (by simp)) _
  have hF5 : FrAt w5 (w.heap.size + 1) f := by rw [hw5]; exact (hF4.alloc _).alloc _
  have hP5 : Blk w5 w.heap.size 26 #[v1, v2, v3] := by rw [hw5]; exact (hP4.alloc _).alloc _
  have hZ5 : FrAt w5 (w.heap.size + 1 + 1) Fra.zero := by rw [hw5]; exact (hZ4.alloc _).alloc _
  have hY5 : Blk w5 Y 33 #[.int .u8 (x.o : Int), .int .i64 x.a, .int .i64 x.b, .int .i64 x.c, .int .i64 x.k] := by rw [hw5]; exact (hY4.alloc _).alloc _
  have hR5 : Blk w5 (Y + 1) 27 (regA f) := by rw [hw5]; exact (blk_at hs4.symm).alloc _
  have hG5 : FrAt w5 (Y + 1 + 1) (f.goto (f.p + 1)) := by rw [hw5]; exact blk_at (by simp [hs4])
  have hs5 : w5.heap.size = Y + 1 + 1 + 1 := by rw [hw5]; simp [hs4]
  rw [hw4] at hw5
  go_upto_region 8 with (go_at_call 27; refine hloc.mono ?_; rintro e w' ⟨rfl, rfl⟩)
  rw [← hw5, ← hY]
  clear hF4 hZ4 hY4 hP4 hs4 hB4 hw4 hw5 hY hloc y0 hwp hpc hFv q0 q1 q2 q3 q4 q5 q6 q7 q8 q9 u0 u1 u2 u3 u4 u5 u6 u7 u8 u9
  have y0 := hY5.cell (k := 0) (v := .int .u8 (x.o : Int)) rfl
  obtain ⟨z0, z1, z2, z3, z4, z5, z6, z7, z8, z9⟩ := fra_cells hZ5
  have zf := hZ5.frozen
  obtain ⟨w9, hw9, hX9, hb9⟩ : ∃ w9, w9 = ((((((((((w5.setCell ⟨w.heap.size + 1 + 1, 0, none⟩ (.int .i64 0)).setCell ⟨w.heap.size + 1 + 1, 1, none⟩ (.int .i64 0)).setCell ⟨w.heap.size + 1 + 1, 2, none⟩ (.int .i64 0)).setCell ⟨w.heap.size + 1 + 1, 3, none⟩ (.int .i64 0)).setCell ⟨w.heap.size + 1 + 1, 4, none⟩ (.int .i64 0)).setCell ⟨w.heap.size + 1 + 1, 5, none⟩ (.int .i64 0)).setCell ⟨w.heap.size + 1 + 1, 6, none⟩ (.int .i64 0)).setCell ⟨w.heap.size + 1 + 1, 7, none⟩ (.int .i64 0)).setCell ⟨w.heap.size + 1 + 1, 8, none⟩ (.int .i64 0)).setCell ⟨w.heap.size + 1 + 1, 9, none⟩ (.int .i64 0)) ∧ Blk w9 (w.heap.size + 1 + 1) 29 (fraA Fra.zero) ∧ But [w.heap.size + 1 + 1] w5 w9 := ⟨_, rfl, sto10 hZ5 (.int .i64 0) (.int .i64 0) (.int .i64 0) (.int .i64 0) (.int .i64 0) (.int .i64 0) (.int .i64 0) (.int .i64 0) (.int .i64 0) (.int .i64 0)⟩
  have hB9 := below_but hB5 hb9 (Nat.le_refl _) (by omega)
  go_wp2_with fail
  rw [← hw9]
  obtain ⟨t0, t1, t2, t3, t4, t5, t6, t7, t8, t9⟩ := fra_cells hX9
  refine bodyPost_ret (v := .tuple #[fraV Fra.zero, .int .i64 2]) (by simp [results, Try.f21, go_sem, t0, t1, t2, t3, t4, t5, t6, t7, t8, t9, Fra.zero]) rfl ?_
  exact ⟨rfl, hB9⟩
set_option maxRecDepth 100000 in
theorem rplain_o_eq {o na nb : Nat} {xc xk : Int} (f : Fra) (v : Int) (ok : Bool) (h8 : o ≠ 8) (h10 : o ≠ 10) : doneG noRec ⟨o, (na : Int), (nb : Int), xc, xk⟩ f (-1) v ok = f.goto (f.p + 1) := by
  unfold doneG pcF numF recF noRec
  simp [h8, h10]
set_option maxRecDepth 100000 in
set_option maxHeartbeats 3200000 in
theorem rdone_o {lo hi : Nat} {v1 v2 v3 : Value} {p : Prg} (w : World) (h : PrgAt lo hi w v1 v2 v3 p) (hs : Small p) (f : Fra) (v : Int) (ok : Bool) {o na nb : Nat} {xc xk : Int} (hx : atF p f = some ⟨o, (na : Int), (nb : Int), xc, xk⟩) (hl : locO o = false) (h8 : o ≠ 8) (h6 : o ≠ 6) (h10 : o ≠ 10) :
    Calls Try.prog 21 #[.agg #[v1, v2, v3], fraV f, .int .i64 (-1), .int .i64 v, .bool ok] w fun e w' => e = .returned (.tuple #[fraV (doneG noRec ⟨o, (na : Int), (nb : Int), xc, xk⟩ f (-1) v ok), .int .i64 0]) ∧ Below w.heap.size w w' := by
  have d8 : ((o : Int) != 8) = true := by simp; omega
  have d6 : ((o : Int) == 6) = false := by simp; omega
  have d10 : ((o : Int) == 10) = false := by simp; omega
  obtain ⟨wf, hwf⟩ : ∃ wf, wf = ((w.alloc (.cells #[v1, v2, v3] 26)).alloc (.cells (fraA f) 29)).alloc (.cells (fraA Fra.zero) 29) := ⟨_, rfl⟩
  have hB : Below w.heap.size w wf := by rw [hwf]; exact below3 w _ _ _
  have hP : Blk wf w.heap.size 26 #[v1, v2, v3] := by rw [hwf]; exact ((blk_new w _ _).alloc _).alloc _
  have hF : FrAt wf (w.heap.size + 1) f := by rw [hwf]; exact (blk_at (by simp)).alloc _
  have hZ : FrAt wf (w.heap.size + 1 + 1) Fra.zero := by rw [hwf]; exact blk_at (by simp)
  have hsz : wf.heap.size = w.heap.size + 1 + 1 + 1 := by rw [hwf]; simp
  have hc := rmay_any wf (h.later hB) hs f
  go_enter Try.func21, Try.ntmps21
  go_wp2_with fail
  rw [show (#[.int .i64 0, .int .i64 0, .int .i64 0, .int .i64 0, .int .i64 0, .int .i64 0, .int .i64 0, .int .i64 0, .int .i64 0, .int .i64 0] : Array Value) = fraA Fra.zero from rfl, ← hwf]
  clear hwf
  refine hc.mono ?_
  rintro e w1 ⟨rfl, hb⟩
  have hB1 := below_next hB hb (Nat.le_refl _)
  have hP1 := hP.later hb hP.lt
  have hF1 := hF.later hb hF.lt
  have hZ1 := hZ.later hb hZ.lt
  have hs1 : w.heap.size + 1 + 1 + 1 ≤ w1.heap.size := by rw [← hsz]; exact hb.size
  clear hc hB hb hP hF hZ hsz
  have hat : Calls Try.prog 12 #[.agg #[v1, v2, v3], fraV f] w1 fun e w' => e = .returned (.agg #[.int .u8 (o : Int), .int .i64 (na : Int), .int .i64 (nb : Int), .int .i64 xc, .int .i64 xk]) ∧ Below w1.heap.size w1 w' := rat_any w1 (h.later hB1) f hx
  rw [hx, show (some ⟨o, (na : Int), (nb : Int), xc, xk⟩ : Option In).isSome = true from rfl]
  have p0 := hP1.cell (k := 0) (v := v1) rfl
  have p1 := hP1.cell (k := 1) (v := v2) rfl
  have p2 := hP1.cell (k := 2) (v := v3) rfl
  obtain ⟨q0, q1, q2, q3, q4, q5, q6, q7, q8, q9⟩ := fra_cells hF1
  go_wp2_with fail
  refine hat.mono ?_
  clear hat p0 p1 p2 q0 q1 q2 q3 q4 q5 q6 q7 q8 q9
  rintro e w3 ⟨rfl, hb3⟩
  have hB3 := below_next hB1 hb3 (Nat.le_refl _)
  have hF3 := hF1.later hb3 hF1.lt
  have hZ3 := hZ1.later hb3 hZ1.lt
  have hP3 := hP1.later hb3 hP1.lt
  have hs3 : w.heap.size + 1 + 1 + 1 ≤ w3.heap.size := Nat.le_trans hs1 hb3.size
  obtain ⟨w4, hw4⟩ : ∃ w4, w4 = w3.alloc (.cells #[.int .u8 (o : Int), .int .i64 (na : Int), .int .i64 (nb : Int), .int .i64 xc, .int .i64 xk] 33) := ⟨_, rfl⟩
  obtain ⟨Y, hY⟩ : ∃ Y, Y = w3.heap.size := ⟨_, rfl⟩
  have hB4 : Below w.heap.size w w4 := by rw [hw4]; exact hB3.alloc hB3.size _
  have hF4 : FrAt w4 (w.heap.size + 1) f := by rw [hw4]; exact hF3.alloc _
  have hZ4 : FrAt w4 (w.heap.size + 1 + 1) Fra.zero := by rw [hw4]; exact hZ3.alloc _
  have hP4 : Blk w4 w.heap.size 26 #[v1, v2, v3] := by rw [hw4]; exact hP3.alloc _
  have hY4 : Blk w4 Y 33 #[.int .u8 (o : Int), .int .i64 (na : Int), .int .i64 (nb : Int), .int .i64 xc, .int .i64 xk] := by rw [hw4, hY]; exact blk_new w3 _ _
  have hs4 : w4.heap.size = Y + 1 := by rw [hw4, hY]; simp
  have hYl : w.heap.size + 1 + 1 < Y := by omega
  clear hB1 hP1 hF1 hZ1 hs1 hb3 hB3 hF3 hZ3 hP3 hs3
  have hloc : Calls Try.prog 27 #[.int .u8 (o : Int)] w4 fun e w' => e = .returned (.bool false) ∧ w' = w4 := by have := rlocal_any o w4; rw [hl] at this; exact this
  rw [hw4] at hloc
  have hpc := at_pc hs hx
  have hwp : IntKind.i64.wrap (f.p + 1) = f.p + 1 := by rw [IntKind.wrap_i64]; omega
  have y0 := hY4.cell (k := 0) (v := .int .u8 (o : Int)) rfl
  rw [hw4, hY] at y0
  obtain ⟨q0, q1, q2, q3, q4, q5, q6, q7, q8, q9⟩ := fra_cells hF4
  rw [hw4] at q0 q1 q2 q3 q4 q5 q6 q7 q8 q9
  have hFv : FrAt (w4.alloc (.cells #[.int .i64 f.r0, .int .i64 f.r1, .int .i64 f.r2, .int .i64 f.r3, .int .i64 f.r4, .int .i64 f.r5, .int .i64 f.r6, .int .i64 f.r7] 27)) (w.heap.size + 1) f := hF4.alloc _
  obtain ⟨u0, u1, u2, u3, u4, u5, u6, u7, u8, u9⟩ := fra_cells hFv
  rw [hw4] at u0 u1 u2 u3 u4 u5 u6 u7 u8 u9
  obtain ⟨w5, hw5⟩ : ∃ w5, w5 = (w4.alloc (.cells #[.int .i64 f.r0, .int .i64 f.r1, .int .i64 f.r2, .int .i64 f.r3, .int .i64 f.r4, .int .i64 f.r5, .int .i64 f.r6, .int .i64 f.r7] 27)).alloc (.cells #[.int .i64 f.c, .int .i64 (f.p + 1), .int .i64 f.r0, .int .i64 f.r1, .int .i64 f.r2, .int .i64 f.r3, .int .i64 f.r4, .int .i64 f.r5, .int .i64 f.r6, .int .i64 f.r7] 29) := ⟨_, rfl⟩
  have hB5 : Below w.heap.size w w5 := by rw [hw5]; exact (hB4.alloc hB4.size _).alloc (Nat.le_trans hB4.size (by simp)) _
  have hF5 : FrAt w5 (w.heap.size + 1) f := by rw [hw5]; exact (hF4.alloc _).alloc _
  have hP5 : Blk w5 w.heap.size 26 #[v1, v2, v3] := by rw [hw5]; exact (hP4.alloc _).alloc _
  have hZ5 : FrAt w5 (w.heap.size + 1 + 1) Fra.zero := by rw [hw5]; exact (hZ4.alloc _).alloc _
  have hY5 : Blk w5 Y 33 #[.int .u8 (o : Int), .int .i64 (na : Int), .int .i64 (nb : Int), .int .i64 xc, .int .i64 xk] := by rw [hw5]; exact (hY4.alloc _).alloc _
  have hR5 : Blk w5 (Y + 1) 27 (regA f) := by rw [hw5]; exact (blk_at hs4.symm).alloc _
  have hG5 : FrAt w5 (Y + 1 + 1) (f.goto (f.p + 1)) := by rw [hw5]; exact blk_at (by simp [hs4])
  have hs5 : w5.heap.size = Y + 1 + 1 + 1 := by rw [hw5]; simp [hs4]
  rw [hw4] at hw5
  go_upto_region 8 with (go_at_call 27; refine hloc.mono ?_; rintro e w' ⟨rfl, rfl⟩)
  rw [← hw5, ← hY]
  clear hF4 hZ4 hY4 hP4 hs4 hB4 hw4 hw5 hY hloc y0 hwp hpc hFv q0 q1 q2 q3 q4 q5 q6 q7 q8 q9 u0 u1 u2 u3 u4 u5 u6 u7 u8 u9
  have y0 := hY5.cell (k := 0) (v := .int .u8 (o : Int)) rfl
  obtain ⟨K, hK⟩ : ∃ K, K = f.goto (f.p + 1) := ⟨_, rfl⟩
  rw [← hK] at hG5
  have HK : Hid (K = doneG noRec ⟨o, (na : Int), (nb : Int), xc, xk⟩ f (-1) v ok) := Lib.hid (by rw [hK, rplain_o_eq f v ok h8 h10])
  clear hK h8 h6 h10
  obtain ⟨g0, g1, g2, g3, g4, g5, g6, g7, g8, g9⟩ := fra_cells hG5
  obtain ⟨z0, z1, z2, z3, z4, z5, z6, z7, z8, z9⟩ := fra_cells hZ5
  have zf := hZ5.frozen
  obtain ⟨w9, hw9, hX9, hb9⟩ : ∃ w9, w9 = ((((((((((w5.setCell ⟨w.heap.size + 1 + 1, 0, none⟩ (.int .i64 K.c)).setCell ⟨w.heap.size + 1 + 1, 1, none⟩ (.int .i64 K.p)).setCell ⟨w.heap.size + 1 + 1, 2, none⟩ (.int .i64 K.r0)).setCell ⟨w.heap.size + 1 + 1, 3, none⟩ (.int .i64 K.r1)).setCell ⟨w.heap.size + 1 + 1, 4, none⟩ (.int .i64 K.r2)).setCell ⟨w.heap.size + 1 + 1, 5, none⟩ (.int .i64 K.r3)).setCell ⟨w.heap.size + 1 + 1, 6, none⟩ (.int .i64 K.r4)).setCell ⟨w.heap.size + 1 + 1, 7, none⟩ (.int .i64 K.r5)).setCell ⟨w.heap.size + 1 + 1, 8, none⟩ (.int .i64 K.r6)).setCell ⟨w.heap.size + 1 + 1, 9, none⟩ (.int .i64 K.r7)) ∧ Blk w9 (w.heap.size + 1 + 1) 29 (fraA K) ∧ But [w.heap.size + 1 + 1] w5 w9 := ⟨_, rfl, sto10 hZ5 (.int .i64 K.c) (.int .i64 K.p) (.int .i64 K.r0) (.int .i64 K.r1) (.int .i64 K.r2) (.int .i64 K.r3) (.int .i64 K.r4) (.int .i64 K.r5) (.int .i64 K.r6) (.int .i64 K.r7)⟩
  have hB9 := below_but hB5 hb9 (Nat.le_refl _) (by omega)
  go_wp2_with fail
  rw [← hw9]
  clear g0 g1 g2 g3 g4 g5 g6 g7 g8 g9
  obtain ⟨t0, t1, t2, t3, t4, t5, t6, t7, t8, t9⟩ := fra_cells hX9
  refine bodyPost_ret (v := .tuple #[fraV K, .int .i64 0]) (by simp [results, Try.f21, go_sem, t0, t1, t2, t3, t4, t5, t6, t7, t8, t9]) rfl ?_
  exact ⟨by rw [HK.out], hB9⟩
set_option maxRecDepth 100000 in
theorem rplain_10_eq {na nb : Nat} {xc xk : Int} (f : Fra) (v : Int) (ok : Bool) : doneG noRec ⟨10, (na : Int), (nb : Int), xc, xk⟩ f (-1) v ok = f := by
  unfold doneG pcF numF recF noRec
  simp 
set_option maxRecDepth 100000 in
set_option maxHeartbeats 3200000 in
theorem rdone_10 {lo hi : Nat} {v1 v2 v3 : Value} {p : Prg} (w : World) (h : PrgAt lo hi w v1 v2 v3 p) (hs : Small p) (f : Fra) (v : Int) (ok : Bool) {na nb : Nat} {xc xk : Int} (hx : atF p f = some ⟨10, (na : Int), (nb : Int), xc, xk⟩) (hl : locO 10 = false) :
    Calls Try.prog 21 #[.agg #[v1, v2, v3], fraV f, .int .i64 (-1), .int .i64 v, .bool ok] w fun e w' => e = .returned (.tuple #[fraV (doneG noRec ⟨10, (na : Int), (nb : Int), xc, xk⟩ f (-1) v ok), .int .i64 0]) ∧ Below w.heap.size w w' := by
  obtain ⟨wf, hwf⟩ : ∃ wf, wf = ((w.alloc (.cells #[v1, v2, v3] 26)).alloc (.cells (fraA f) 29)).alloc (.cells (fraA Fra.zero) 29) := ⟨_, rfl⟩
  have hB : Below w.heap.size w wf := by rw [hwf]; exact below3 w _ _ _
  have hP : Blk wf w.heap.size 26 #[v1, v2, v3] := by rw [hwf]; exact ((blk_new w _ _).alloc _).alloc _
  have hF : FrAt wf (w.heap.size + 1) f := by rw [hwf]; exact (blk_at (by simp)).alloc _
  have hZ : FrAt wf (w.heap.size + 1 + 1) Fra.zero := by rw [hwf]; exact blk_at (by simp)
  have hsz : wf.heap.size = w.heap.size + 1 + 1 + 1 := by rw [hwf]; simp
  have hc := rmay_any wf (h.later hB) hs f
  go_enter Try.func21, Try.ntmps21
  go_wp2_with fail
  rw [show (#[.int .i64 0, .int .i64 0, .int .i64 0, .int .i64 0, .int .i64 0, .int .i64 0, .int .i64 0, .int .i64 0, .int .i64 0, .int .i64 0] : Array Value) = fraA Fra.zero from rfl, ← hwf]
  clear hwf
  refine hc.mono ?_
  rintro e w1 ⟨rfl, hb⟩
  have hB1 := below_next hB hb (Nat.le_refl _)
  have hP1 := hP.later hb hP.lt
  have hF1 := hF.later hb hF.lt
  have hZ1 := hZ.later hb hZ.lt
  have hs1 : w.heap.size + 1 + 1 + 1 ≤ w1.heap.size := by rw [← hsz]; exact hb.size
  clear hc hB hb hP hF hZ hsz
  have hat : Calls Try.prog 12 #[.agg #[v1, v2, v3], fraV f] w1 fun e w' => e = .returned (.agg #[.int .u8 10, .int .i64 (na : Int), .int .i64 (nb : Int), .int .i64 xc, .int .i64 xk]) ∧ Below w1.heap.size w1 w' := rat_any w1 (h.later hB1) f hx
  rw [hx, show (some ⟨10, (na : Int), (nb : Int), xc, xk⟩ : Option In).isSome = true from rfl]
  have p0 := hP1.cell (k := 0) (v := v1) rfl
  have p1 := hP1.cell (k := 1) (v := v2) rfl
  have p2 := hP1.cell (k := 2) (v := v3) rfl
  obtain ⟨q0, q1, q2, q3, q4, q5, q6, q7, q8, q9⟩ := fra_cells hF1
  go_wp2_with fail
  refine hat.mono ?_
  clear hat p0 p1 p2 q0 q1 q2 q3 q4 q5 q6 q7 q8 q9
  rintro e w3 ⟨rfl, hb3⟩
  have hB3 := below_next hB1 hb3 (Nat.le_refl _)
  have hF3 := hF1.later hb3 hF1.lt
  have hZ3 := hZ1.later hb3 hZ1.lt
  have hP3 := hP1.later hb3 hP1.lt
  have hs3 : w.heap.size + 1 + 1 + 1 ≤ w3.heap.size := Nat.le_trans hs1 hb3.size
  obtain ⟨w4, hw4⟩ : ∃ w4, w4 = w3.alloc (.cells #[.int .u8 10, .int .i64 (na : Int), .int .i64 (nb : Int), .int .i64 xc, .int .i64 xk] 33) := ⟨_, rfl⟩
  obtain ⟨Y, hY⟩ : ∃ Y, Y = w3.heap.size := ⟨_, rfl⟩
  have hB4 : Below w.heap.size w w4 := by rw [hw4]; exact hB3.alloc hB3.size _
  have hF4 : FrAt w4 (w.heap.size + 1) f := by rw [hw4]; exact hF3.alloc _
  have hZ4 : FrAt w4 (w.heap.size + 1 + 1) Fra.zero := by rw [hw4]; exact hZ3.alloc _
  have hP4 : Blk w4 w.heap.size 26 #[v1, v2, v3] := by rw [hw4]; exact hP3.alloc _
  have hY4 : Blk w4 Y 33 #[.int .u8 10, .int .i64 (na : Int), .int .i64 (nb : Int), .int .i64 xc, .int .i64 xk] := by rw [hw4, hY]; exact blk_new w3 _ _
  have hs4 : w4.heap.size = Y + 1 := by rw [hw4, hY]; simp
  have hYl : w.heap.size + 1 + 1 < Y := by omega
  clear hB1 hP1 hF1 hZ1 hs1 hb3 hB3 hF3 hZ3 hP3 hs3
  have hloc : Calls Try.prog 27 #[.int .u8 10] w4 fun e w' => e = .returned (.bool false) ∧ w' = w4 := by have := rlocal_any 10 w4; rw [hl] at this; exact this
  rw [hw4] at hloc
  have hpc := at_pc hs hx
  have hwp : IntKind.i64.wrap (f.p + 1) = f.p + 1 := by rw [IntKind.wrap_i64]; omega
  have y0 := hY4.cell (k := 0) (v := .int .u8 10) rfl
  rw [hw4, hY] at y0
  obtain ⟨q0, q1, q2, q3, q4, q5, q6, q7, q8, q9⟩ := fra_cells hF4
  rw [hw4] at q0 q1 q2 q3 q4 q5 q6 q7 q8 q9
  have hFv : FrAt (w4.alloc (.cells #[.int .i64 f.r0, .int .i64 f.r1, .int .i64 f.r2, .int .i64 f.r3, .int .i64 f.r4, .int .i64 f.r5, .int .i64 f.r6, .int .i64 f.r7] 27)) (w.heap.size + 1) f := hF4.alloc _
  obtain ⟨u0, u1, u2, u3, u4, u5, u6, u7, u8, u9⟩ := fra_cells hFv
  rw [hw4] at u0 u1 u2 u3 u4 u5 u6 u7 u8 u9
  obtain ⟨w5, hw5⟩ : ∃ w5, w5 = (w4.alloc (.cells #[.int .i64 f.r0, .int .i64 f.r1, .int .i64 f.r2, .int .i64 f.r3, .int .i64 f.r4, .int .i64 f.r5, .int .i64 f.r6, .int .i64 f.r7] 27)).alloc (.cells #[.int .i64 f.c, .int .i64 (f.p + 1), .int .i64 f.r0, .int .i64 f.r1, .int .i64 f.r2, .int .i64 f.r3, .int .i64 f.r4, .int .i64 f.r5, .int .i64 f.r6, .int .i64 f.r7] 29) := ⟨_, rfl⟩
  have hB5 : Below w.heap.size w w5 := by rw [hw5]; exact (hB4.alloc hB4.size _).alloc (Nat.le_trans hB4.size (by simp)) _
  have hF5 : FrAt w5 (w.heap.size + 1) f := by rw [hw5]; exact (hF4.alloc _).alloc _
  have hP5 : Blk w5 w.heap.size 26 #[v1, v2, v3] := by rw [hw5]; exact (hP4.alloc _).alloc _
  have hZ5 : FrAt w5 (w.heap.size + 1 + 1) Fra.zero := by rw [hw5]; exact (hZ4.alloc _).alloc _
  have hY5 : Blk w5 Y 33 #[.int .u8 10, .int .i64 (na : Int), .int .i64 (nb : Int), .int .i64 xc, .int .i64 xk] := by rw [hw5]; exact (hY4.alloc _).alloc _
  have hR5 : Blk w5 (Y + 1) 27 (regA f) := by rw [hw5]; exact (blk_at hs4.symm).alloc _
  have hG5 : FrAt w5 (Y + 1 + 1) (f.goto (f.p + 1)) := by rw [hw5]; exact blk_at (by simp [hs4])
  have hs5 : w5.heap.size = Y + 1 + 1 + 1 := by rw [hw5]; simp [hs4]
  rw [hw4] at hw5
  go_upto_region 8 with (go_at_call 27; refine hloc.mono ?_; rintro e w' ⟨rfl, rfl⟩)
  rw [← hw5, ← hY]
  clear hF4 hZ4 hY4 hP4 hs4 hB4 hw4 hw5 hY hloc y0 hwp hpc hFv q0 q1 q2 q3 q4 q5 q6 q7 q8 q9 u0 u1 u2 u3 u4 u5 u6 u7 u8 u9
  have y0 := hY5.cell (k := 0) (v := .int .u8 10) rfl
  obtain ⟨g0, g1, g2, g3, g4, g5, g6, g7, g8, g9⟩ := fra_cells hG5
  have q1 := hF5.cell (k := 1) (v := .int .i64 f.p) rfl
  have gf := hG5.frozen 1
  obtain ⟨w6, hw6⟩ : ∃ w6, w6 = w5.setCell ⟨Y + 1 + 1, 1, none⟩ (.int .i64 f.p) := ⟨_, rfl⟩
  have hG6 : FrAt w6 (Y + 1 + 1) f := by rw [hw6]; exact fra_goto hG5 f.p
  have hZ6 : FrAt w6 (w.heap.size + 1 + 1) Fra.zero := by rw [hw6]; exact hZ5.beside (by simp; omega) _
  have hB6 : Below w.heap.size w w6 := by rw [hw6]; exact hB5.setCell (by simp; omega) _
  go_upto_region 15 with fail
  rw [← hw6]
  obtain ⟨K, hK⟩ : ∃ K, K = f := ⟨_, rfl⟩
  rw [← hK] at hG6
  have HK : Hid (K = doneG noRec ⟨10, (na : Int), (nb : Int), xc, xk⟩ f (-1) v ok) := Lib.hid (by rw [hK, rplain_10_eq f v ok])
  clear hK hw6 hG5 hZ5 hB5 hF5 hY5 hR5 hP5 q1 gf y0 g0 g1 g2 g3 g4 g5 g6 g7 g8 g9
  obtain ⟨g0, g1, g2, g3, g4, g5, g6, g7, g8, g9⟩ := fra_cells hG6
  obtain ⟨z0, z1, z2, z3, z4, z5, z6, z7, z8, z9⟩ := fra_cells hZ6
  have zf := hZ6.frozen
  obtain ⟨w9, hw9, hX9, hb9⟩ : ∃ w9, w9 = ((((((((((w6.setCell ⟨w.heap.size + 1 + 1, 0, none⟩ (.int .i64 K.c)).setCell ⟨w.heap.size + 1 + 1, 1, none⟩ (.int .i64 K.p)).setCell ⟨w.heap.size + 1 + 1, 2, none⟩ (.int .i64 K.r0)).setCell ⟨w.heap.size + 1 + 1, 3, none⟩ (.int .i64 K.r1)).setCell ⟨w.heap.size + 1 + 1, 4, none⟩ (.int .i64 K.r2)).setCell ⟨w.heap.size + 1 + 1, 5, none⟩ (.int .i64 K.r3)).setCell ⟨w.heap.size + 1 + 1, 6, none⟩ (.int .i64 K.r4)).setCell ⟨w.heap.size + 1 + 1, 7, none⟩ (.int .i64 K.r5)).setCell ⟨w.heap.size + 1 + 1, 8, none⟩ (.int .i64 K.r6)).setCell ⟨w.heap.size + 1 + 1, 9, none⟩ (.int .i64 K.r7)) ∧ Blk w9 (w.heap.size + 1 + 1) 29 (fraA K) ∧ But [w.heap.size + 1 + 1] w6 w9 := ⟨_, rfl, sto10 hZ6 (.int .i64 K.c) (.int .i64 K.p) (.int .i64 K.r0) (.int .i64 K.r1) (.int .i64 K.r2) (.int .i64 K.r3) (.int .i64 K.r4) (.int .i64 K.r5) (.int .i64 K.r6) (.int .i64 K.r7)⟩
  have hB9 := below_but hB6 hb9 (Nat.le_refl _) (by omega)
  go_wp2_with fail
  rw [← hw9]
  clear g0 g1 g2 g3 g4 g5 g6 g7 g8 g9
  obtain ⟨t0, t1, t2, t3, t4, t5, t6, t7, t8, t9⟩ := fra_cells hX9
  refine bodyPost_ret (v := .tuple #[fraV K, .int .i64 0]) (by simp [results, Try.f21, go_sem, t0, t1, t2, t3, t4, t5, t6, t7, t8, t9]) rfl ?_
  exact ⟨by rw [HK.out], hB9⟩
set_option maxRecDepth 100000 in
theorem rplain_6_eq {na nb : Nat} {xc xk : Int} (f : Fra) (v : Int) (ok : Bool) : doneG ⟨false, xc, (na : Int), (nb : Int)⟩ ⟨6, (na : Int), (nb : Int), xc, xk⟩ f (-1) v ok = ((f.put na v).put nb (if ok then 1 else 0)).goto (f.p + 1) := by
  unfold doneG pcF numF recF
  simp [put_p]
set_option maxRecDepth 100000 in
set_option maxHeartbeats 3200000 in
theorem rdone_6 {lo hi : Nat} {v1 v2 v3 : Value} {p : Prg} (w : World) (h : PrgAt lo hi w v1 v2 v3 p) (hs : Small p) (f : Fra) (v : Int) (ok : Bool) {na nb : Nat} {xc xk : Int} (hx : atF p f = some ⟨6, (na : Int), (nb : Int), xc, xk⟩) (hl : locO 6 = false) (hna : na < 8) (hnb : nb < 8) :
    Calls Try.prog 21 #[.agg #[v1, v2, v3], fraV f, .int .i64 (-1), .int .i64 v, .bool ok] w fun e w' => e = .returned (.tuple #[fraV (doneG ⟨false, xc, (na : Int), (nb : Int)⟩ ⟨6, (na : Int), (nb : Int), xc, xk⟩ f (-1) v ok), .int .i64 0]) ∧ Below w.heap.size w w' := by
  obtain ⟨wf, hwf⟩ : ∃ wf, wf = ((w.alloc (.cells #[v1, v2, v3] 26)).alloc (.cells (fraA f) 29)).alloc (.cells (fraA Fra.zero) 29) := ⟨_, rfl⟩
  have hB : Below w.heap.size w wf := by rw [hwf]; exact below3 w _ _ _
  have hP : Blk wf w.heap.size 26 #[v1, v2, v3] := by rw [hwf]; exact ((blk_new w _ _).alloc _).alloc _
  have hF : FrAt wf (w.heap.size + 1) f := by rw [hwf]; exact (blk_at (by simp)).alloc _
  have hZ : FrAt wf (w.heap.size + 1 + 1) Fra.zero := by rw [hwf]; exact blk_at (by simp)
  have hsz : wf.heap.size = w.heap.size + 1 + 1 + 1 := by rw [hwf]; simp
  have hc := rmay_any wf (h.later hB) hs f
  go_enter Try.func21, Try.ntmps21
  go_wp2_with fail
  rw [show (#[.int .i64 0, .int .i64 0, .int .i64 0, .int .i64 0, .int .i64 0, .int .i64 0, .int .i64 0, .int .i64 0, .int .i64 0, .int .i64 0] : Array Value) = fraA Fra.zero from rfl, ← hwf]
  clear hwf
  refine hc.mono ?_
  rintro e w1 ⟨rfl, hb⟩
  have hB1 := below_next hB hb (Nat.le_refl _)
  have hP1 := hP.later hb hP.lt
  have hF1 := hF.later hb hF.lt
  have hZ1 := hZ.later hb hZ.lt
  have hs1 : w.heap.size + 1 + 1 + 1 ≤ w1.heap.size := by rw [← hsz]; exact hb.size
  clear hc hB hb hP hF hZ hsz
  have hat : Calls Try.prog 12 #[.agg #[v1, v2, v3], fraV f] w1 fun e w' => e = .returned (.agg #[.int .u8 6, .int .i64 (na : Int), .int .i64 (nb : Int), .int .i64 xc, .int .i64 xk]) ∧ Below w1.heap.size w1 w' := rat_any w1 (h.later hB1) f hx
  rw [hx, show (some ⟨6, (na : Int), (nb : Int), xc, xk⟩ : Option In).isSome = true from rfl]
  have p0 := hP1.cell (k := 0) (v := v1) rfl
  have p1 := hP1.cell (k := 1) (v := v2) rfl
  have p2 := hP1.cell (k := 2) (v := v3) rfl
  obtain ⟨q0, q1, q2, q3, q4, q5, q6, q7, q8, q9⟩ := fra_cells hF1
  go_wp2_with fail
  refine hat.mono ?_
  clear hat p0 p1 p2 q0 q1 q2 q3 q4 q5 q6 q7 q8 q9
  rintro e w3 ⟨rfl, hb3⟩
  have hB3 := below_next hB1 hb3 (Nat.le_refl _)
  have hF3 := hF1.later hb3 hF1.lt
  have hZ3 := hZ1.later hb3 hZ1.lt
  have hP3 := hP1.later hb3 hP1.lt
  have hs3 : w.heap.size + 1 + 1 + 1 ≤ w3.heap.size := Nat.le_trans hs1 hb3.size
  obtain ⟨w4, hw4⟩ : ∃ w4, w4 = w3.alloc (.cells #[.int .u8 6, .int .i64 (na : Int), .int .i64 (nb : Int), .int .i64 xc, .int .i64 xk] 33) := ⟨_, rfl⟩
  obtain ⟨Y, hY⟩ : ∃ Y, Y = w3.heap.size := ⟨_, rfl⟩
  have hB4 : Below w.heap.size w w4 := by rw [hw4]; exact hB3.alloc hB3.size _
  have hF4 : FrAt w4 (w.heap.size + 1) f := by rw [hw4]; exact hF3.alloc _
  have hZ4 : FrAt w4 (w.heap.size + 1 + 1) Fra.zero := by rw [hw4]; exact hZ3.alloc _
  have hP4 : Blk w4 w.heap.size 26 #[v1, v2, v3] := by rw [hw4]; exact hP3.alloc _
  have hY4 : Blk w4 Y 33 #[.int .u8 6, .int .i64 (na : Int), .int .i64 (nb : Int), .int .i64 xc, .int .i64 xk] := by rw [hw4, hY]; exact blk_new w3 _ _
  have hs4 : w4.heap.size = Y + 1 := by rw [hw4, hY]; simp
  have hYl : w.heap.size + 1 + 1 < Y := by omega
  clear hB1 hP1 hF1 hZ1 hs1 hb3 hB3 hF3 hZ3 hP3 hs3
  have hloc : Calls Try.prog 27 #[.int .u8 6] w4 fun e w' => e = .returned (.bool false) ∧ w' = w4 := by have := rlocal_any 6 w4; rw [hl] at this; exact this
  rw [hw4] at hloc
  have hpc := at_pc hs hx
  have hwp : IntKind.i64.wrap (f.p + 1) = f.p + 1 := by rw [IntKind.wrap_i64]; omega
  have y0 := hY4.cell (k := 0) (v := .int .u8 6) rfl
  rw [hw4, hY] at y0
  obtain ⟨q0, q1, q2, q3, q4, q5, q6, q7, q8, q9⟩ := fra_cells hF4
  rw [hw4] at q0 q1 q2 q3 q4 q5 q6 q7 q8 q9
  have hFv : FrAt (w4.alloc (.cells #[.int .i64 f.r0, .int .i64 f.r1, .int .i64 f.r2, .int .i64 f.r3, .int .i64 f.r4, .int .i64 f.r5, .int .i64 f.r6, .int .i64 f.r7] 27)) (w.heap.size + 1) f := hF4.alloc _
  obtain ⟨u0, u1, u2, u3, u4, u5, u6, u7, u8, u9⟩ := fra_cells hFv
  rw [hw4] at u0 u1 u2 u3 u4 u5 u6 u7 u8 u9
  obtain ⟨w5, hw5⟩ : ∃ w5, w5 = (w4.alloc (.cells #[.int .i64 f.r0, .int .i64 f.r1, .int .i64 f.r2, .int .i64 f.r3, .int .i64 f.r4, .int .i64 f.r5, .int .i64 f.r6, .int .i64 f.r7] 27)).alloc (.cells #[.int .i64 f.c, .int .i64 (f.p + 1), .int .i64 f.r0, .int .i64 f.r1, .int .i64 f.r2, .int .i64 f.r3, .int .i64 f.r4, .int .i64 f.r5, .int .i64 f.r6, .int .i64 f.r7] 29) := ⟨_, rfl⟩
  have hB5 : Below w.heap.size w w5 := by rw [hw5]; exact (hB4.alloc hB4.size _).alloc (Nat.le_trans hB4.size (by simp)) _
  have hF5 : FrAt w5 (w.heap.size + 1) f := by rw [hw5]; exact (hF4.alloc _).alloc _
  have hP5 : Blk w5 w.heap.size 26 #[v1, v2, v3] := by rw [hw5]; exact (hP4.alloc _).alloc _
  have hZ5 : FrAt w5 (w.heap.size + 1 + 1) Fra.zero := by rw [hw5]; exact (hZ4.alloc _).alloc _
  have hY5 : Blk w5 Y 33 #[.int .u8 6, .int .i64 (na : Int), .int .i64 (nb : Int), .int .i64 xc, .int .i64 xk] := by rw [hw5]; exact (hY4.alloc _).alloc _
  have hR5 : Blk w5 (Y + 1) 27 (regA f) := by rw [hw5]; exact (blk_at hs4.symm).alloc _
  have hG5 : FrAt w5 (Y + 1 + 1) (f.goto (f.p + 1)) := by rw [hw5]; exact blk_at (by simp [hs4])
  have hs5 : w5.heap.size = Y + 1 + 1 + 1 := by rw [hw5]; simp [hs4]
  rw [hw4] at hw5
  go_upto_region 8 with (go_at_call 27; refine hloc.mono ?_; rintro e w' ⟨rfl, rfl⟩)
  rw [← hw5, ← hY]
  clear hF4 hZ4 hY4 hP4 hs4 hB4 hw4 hw5 hY hloc y0 hwp hpc hFv q0 q1 q2 q3 q4 q5 q6 q7 q8 q9 u0 u1 u2 u3 u4 u5 u6 u7 u8 u9
  have y0 := hY5.cell (k := 0) (v := .int .u8 6) rfl
  obtain ⟨fl, hfl⟩ : ∃ fl : Int, fl = if ok then 1 else 0 := ⟨_, rfl⟩
  obtain ⟨F1, hF1⟩ : ∃ F1, F1 = f.put na v := ⟨_, rfl⟩
  obtain ⟨F2, hF2⟩ : ∃ F2, F2 = F1.put nb fl := ⟨_, rfl⟩
  have hHc : F2.c = (f.goto (f.p + 1)).c := by rw [hF2, put_c, hF1, put_c]; rfl
  have cf : ∀ W, Calls Try.prog 35 #[.bool ok] W fun e w' => e = .returned (.int .i64 fl) ∧ w' = W := fun W => by rw [hfl]; exact rflag_any ok W
  have c1 : ∀ W, Below w5.heap.size w5 W → Calls Try.prog 34 #[.agg #[.int .i64 f.r0, .int .i64 f.r1, .int .i64 f.r2, .int .i64 f.r3, .int .i64 f.r4, .int .i64 f.r5, .int .i64 f.r6, .int .i64 f.r7], .int .i64 (na : Int), .int .i64 v] W fun e w' => e = .returned (.agg #[.int .i64 F1.r0, .int .i64 F1.r1, .int .i64 F1.r2, .int .i64 F1.r3, .int .i64 F1.r4, .int .i64 F1.r5, .int .i64 F1.r6, .int .i64 F1.r7]) ∧ Below w5.heap.size w5 w' := fun W hW => by
    rw [hF1]
    exact (rput_any f hna v W).mono fun e w' ⟨h1, h2⟩ => ⟨h1, below_next hW h2 (Nat.le_refl _)⟩
  have c2 : ∀ W, Below w5.heap.size w5 W → Calls Try.prog 34 #[.agg #[.int .i64 F1.r0, .int .i64 F1.r1, .int .i64 F1.r2, .int .i64 F1.r3, .int .i64 F1.r4, .int .i64 F1.r5, .int .i64 F1.r6, .int .i64 F1.r7], .int .i64 (nb : Int), .int .i64 fl] W fun e w' => e = .returned (.agg #[.int .i64 F2.r0, .int .i64 F2.r1, .int .i64 F2.r2, .int .i64 F2.r3, .int .i64 F2.r4, .int .i64 F2.r5, .int .i64 F2.r6, .int .i64 F2.r7]) ∧ Below w5.heap.size w5 w' := fun W hW => by
    rw [hF2]
    exact (rput_any F1 hnb fl W).mono fun e w' ⟨h1, h2⟩ => ⟨h1, below_next hW h2 (Nat.le_refl _)⟩
  have HFL := Lib.hid hfl
  have H1 := Lib.hid hF1
  have H2 := Lib.hid hF2
  clear hfl hF1 hF2
  have hkS : ∀ W, But [Y + 1 + 1] w5 W → W.cell? ⟨Y + 1, 0, none⟩ = some (.int .i64 f.r0) ∧ W.cell? ⟨Y + 1, 1, none⟩ = some (.int .i64 f.r1) ∧ W.cell? ⟨Y + 1, 2, none⟩ = some (.int .i64 f.r2) ∧ W.cell? ⟨Y + 1, 3, none⟩ = some (.int .i64 f.r3) ∧ W.cell? ⟨Y + 1, 4, none⟩ = some (.int .i64 f.r4) ∧ W.cell? ⟨Y + 1, 5, none⟩ = some (.int .i64 f.r5) ∧ W.cell? ⟨Y + 1, 6, none⟩ = some (.int .i64 f.r6) ∧ W.cell? ⟨Y + 1, 7, none⟩ = some (.int .i64 f.r7) ∧ W.cell? ⟨Y, 1, none⟩ = some (.int .i64 (na : Int)) ∧ W.cell? ⟨Y, 2, none⟩ = some (.int .i64 (nb : Int)) := fun W hW => by
    have hRW := but_on hR5 hW (by omega)
    have hYW := but_on hY5 hW (by omega)
    exact ⟨hRW.cell rfl, hRW.cell rfl, hRW.cell rfl, hRW.cell rfl, hRW.cell rfl, hRW.cell rfl, hRW.cell rfl, hRW.cell rfl, hYW.cell rfl, hYW.cell rfl⟩
  have hkb : ∀ W, Below w5.heap.size w5 W → But [Y + 1 + 1] w5 W := fun W hW => .of_below hW _
  have hkG : ∀ W, Below w5.heap.size w5 W → FrAt W (Y + 1 + 1) (f.goto (f.p + 1)) := fun W hW => hG5.later hW hG5.lt
  have hkZ : ∀ W, Below w5.heap.size w5 W → FrAt W (w.heap.size + 1 + 1) Fra.zero := fun W hW => hZ5.later hW hZ5.lt
  have hkY : ∀ W, Below w5.heap.size w5 W → Blk W Y 33 #[.int .u8 6, .int .i64 (na : Int), .int .i64 (nb : Int), .int .i64 xc, .int .i64 xk] := fun W hW => hY5.later hW hY5.lt
  clear hG5 hZ5 hY5 hR5 hF5 hP5
  go_wp2_with fail
  go_region_held3 (fun w' => w'.cell? ⟨Y + 1, 0, none⟩ = some (.int .i64 f.r0) ∧ w'.cell? ⟨Y + 1, 1, none⟩ = some (.int .i64 f.r1) ∧ w'.cell? ⟨Y + 1, 2, none⟩ = some (.int .i64 f.r2) ∧ w'.cell? ⟨Y + 1, 3, none⟩ = some (.int .i64 f.r3) ∧ w'.cell? ⟨Y + 1, 4, none⟩ = some (.int .i64 f.r4) ∧ w'.cell? ⟨Y + 1, 5, none⟩ = some (.int .i64 f.r5) ∧ w'.cell? ⟨Y + 1, 6, none⟩ = some (.int .i64 f.r6) ∧ w'.cell? ⟨Y + 1, 7, none⟩ = some (.int .i64 f.r7) ∧ w'.cell? ⟨Y, 1, none⟩ = some (.int .i64 (na : Int)) ∧ w'.cell? ⟨Y, 2, none⟩ = some (.int .i64 (nb : Int)))
    (refine hkS _ ?_ <;> with_reducible first | exact hkb _ hb3 | exact (stoR hG3 F2 hHc).2.after hb3 | exact hkb _ hb2 | exact hkb _ (drew_below' _))
    ((first
      | (go_at_call 35; refine (cf _).mono ?_; rintro e wq ⟨rfl, rfl⟩)
      | (go_at_call 34; with_reducible refine (c1 _ (by with_reducible first | exact drew_below' _)).mono ?_; rintro e w2 ⟨rfl, hb2⟩)
      | (go_at_call 34; with_reducible refine (c2 _ (by with_reducible first | exact hb2)).mono ?_; rintro e w3 ⟨rfl, hb3⟩; have hG3 := hkG _ hb3; obtain ⟨g0, g1, g2, g3, g4, g5, g6, g7, g8, g9⟩ := fra_cells hG3; have gf := hG3.frozen)))
  all_goals obtain ⟨w7, hw7, hX7, hb7⟩ : ∃ w7, w7 = ((((((((w3.setCell ⟨Y + 1 + 1, 2, none⟩ (.int .i64 F2.r0)).setCell ⟨Y + 1 + 1, 3, none⟩ (.int .i64 F2.r1)).setCell ⟨Y + 1 + 1, 4, none⟩ (.int .i64 F2.r2)).setCell ⟨Y + 1 + 1, 5, none⟩ (.int .i64 F2.r3)).setCell ⟨Y + 1 + 1, 6, none⟩ (.int .i64 F2.r4)).setCell ⟨Y + 1 + 1, 7, none⟩ (.int .i64 F2.r5)).setCell ⟨Y + 1 + 1, 8, none⟩ (.int .i64 F2.r6)).setCell ⟨Y + 1 + 1, 9, none⟩ (.int .i64 F2.r7)) ∧ FrAt w7 (Y + 1 + 1) (F2.goto (f.p + 1)) ∧ But [Y + 1 + 1] w3 w7 := ⟨_, rfl, stoR hG3 F2 hHc⟩
  all_goals rw [← hw7]
  all_goals clear g0 g1 g2 g3 g4 g5 g6 g7 g8 g9 gf c1 c2 cf hkS hkb hkG
  all_goals have hG7 := hX7
  all_goals have hZ7 := but_on (hkZ _ hb3) hb7 (by omega)
  all_goals have hB7 := below_but (below_next hB5 hb3 (Nat.le_refl _)) hb7 (Nat.le_refl _) (by omega)
  all_goals have y0 := (but_on (hkY _ hb3) hb7 (by omega)).cell (k := 0) (v := .int .u8 6) rfl
  all_goals clear hb3 hb2 hX7 hb7 hw7 hkZ hkY hG3
  all_goals obtain ⟨K, hK⟩ : ∃ K, K = F2.goto (f.p + 1) := ⟨_, rfl⟩
  all_goals rw [← hK] at hG7
  all_goals have HK : Hid (K = doneG ⟨false, xc, (na : Int), (nb : Int)⟩ ⟨6, (na : Int), (nb : Int), xc, xk⟩ f (-1) v ok) := Lib.hid (by rw [hK, H2.out, H1.out, HFL.out, rplain_6_eq f v ok])
  all_goals clear hK
  all_goals obtain ⟨g0, g1, g2, g3, g4, g5, g6, g7, g8, g9⟩ := fra_cells hG7
  all_goals obtain ⟨z0, z1, z2, z3, z4, z5, z6, z7, z8, z9⟩ := fra_cells hZ7
  all_goals have zf := hZ7.frozen
  all_goals obtain ⟨w9, hw9, hX9, hb9⟩ : ∃ w9, w9 = ((((((((((w7.setCell ⟨w.heap.size + 1 + 1, 0, none⟩ (.int .i64 K.c)).setCell ⟨w.heap.size + 1 + 1, 1, none⟩ (.int .i64 K.p)).setCell ⟨w.heap.size + 1 + 1, 2, none⟩ (.int .i64 K.r0)).setCell ⟨w.heap.size + 1 + 1, 3, none⟩ (.int .i64 K.r1)).setCell ⟨w.heap.size + 1 + 1, 4, none⟩ (.int .i64 K.r2)).setCell ⟨w.heap.size + 1 + 1, 5, none⟩ (.int .i64 K.r3)).setCell ⟨w.heap.size + 1 + 1, 6, none⟩ (.int .i64 K.r4)).setCell ⟨w.heap.size + 1 + 1, 7, none⟩ (.int .i64 K.r5)).setCell ⟨w.heap.size + 1 + 1, 8, none⟩ (.int .i64 K.r6)).setCell ⟨w.heap.size + 1 + 1, 9, none⟩ (.int .i64 K.r7)) ∧ Blk w9 (w.heap.size + 1 + 1) 29 (fraA K) ∧ But [w.heap.size + 1 + 1] w7 w9 := ⟨_, rfl, sto10 hZ7 (.int .i64 K.c) (.int .i64 K.p) (.int .i64 K.r0) (.int .i64 K.r1) (.int .i64 K.r2) (.int .i64 K.r3) (.int .i64 K.r4) (.int .i64 K.r5) (.int .i64 K.r6) (.int .i64 K.r7)⟩
  all_goals have hB9 := below_but hB7 hb9 (Nat.le_refl _) (by omega)
  all_goals go_wp2_with fail
  all_goals rw [← hw9]
  all_goals clear g0 g1 g2 g3 g4 g5 g6 g7 g8 g9
  all_goals obtain ⟨t0, t1, t2, t3, t4, t5, t6, t7, t8, t9⟩ := fra_cells hX9
  all_goals refine bodyPost_ret (v := .tuple #[fraV K, .int .i64 0]) (by simp [results, Try.f21, go_sem, t0, t1, t2, t3, t4, t5, t6, t7, t8, t9]) rfl ?_
  all_goals exact ⟨by rw [HK.out], hB9⟩
end Go.Proofs.Ytplajidagpimdaa
