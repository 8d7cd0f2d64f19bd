/-
  The walk of the document's own Step.
-/
import Derived.Test.YtplajidagpimdaaHRefA
namespace Go.Proofs.Ytplajidagpimdaa
open Go.RowKit

/-- The registers of a frame, stored whole. -/
theorem stoR {W : World} {B : Nat} {g : Fra} (hg : FrAt W B g) (h : Fra) (hc : h.c = g.c) :
    FrAt ((((((((W.setCell ⟨B, 2, none⟩ (.int .i64 h.r0)).setCell ⟨B, 3, none⟩ (.int .i64 h.r1)).setCell ⟨B, 4, none⟩ (.int .i64 h.r2)).setCell ⟨B, 5, none⟩ (.int .i64 h.r3)).setCell ⟨B, 6, none⟩ (.int .i64 h.r4)).setCell ⟨B, 7, none⟩ (.int .i64 h.r5)).setCell ⟨B, 8, none⟩ (.int .i64 h.r6)).setCell ⟨B, 9, none⟩ (.int .i64 h.r7)) B (h.goto g.p) ∧ But [B] W ((((((((W.setCell ⟨B, 2, none⟩ (.int .i64 h.r0)).setCell ⟨B, 3, none⟩ (.int .i64 h.r1)).setCell ⟨B, 4, none⟩ (.int .i64 h.r2)).setCell ⟨B, 5, none⟩ (.int .i64 h.r3)).setCell ⟨B, 6, none⟩ (.int .i64 h.r4)).setCell ⟨B, 7, none⟩ (.int .i64 h.r5)).setCell ⟨B, 8, none⟩ (.int .i64 h.r6)).setCell ⟨B, 9, none⟩ (.int .i64 h.r7)) := by
  have hm : B ∈ [B] := by simp
  refine ⟨?_, (((((((((But.refl [B] W).set (.inl hm) _).set (.inl hm) _).set (.inl hm) _).set (.inl hm) _).set (.inl hm) _).set (.inl hm) _).set (.inl hm) _).set (.inl hm) _)⟩
  have key := (((((((hg.set 2 (.int .i64 h.r0)).set 3 (.int .i64 h.r1)).set 4 (.int .i64 h.r2)).set 5 (.int .i64 h.r3)).set 6 (.int .i64 h.r4)).set 7 (.int .i64 h.r5)).set 8 (.int .i64 h.r6)).set 9 (.int .i64 h.r7)
  have e : fraA (h.goto g.p) = ((((((((fraA g).setIfInBounds 2 (.int .i64 h.r0)).setIfInBounds 3 (.int .i64 h.r1)).setIfInBounds 4 (.int .i64 h.r2)).setIfInBounds 5 (.int .i64 h.r3)).setIfInBounds 6 (.int .i64 h.r4)).setIfInBounds 7 (.int .i64 h.r5)).setIfInBounds 8 (.int .i64 h.r6)).setIfInBounds 9 (.int .i64 h.r7) := by
    simp [fraA, Fra.goto, hc]
  unfold FrAt
  rw [e]
  exact key
theorem reg_put {W : World} {B : Nat} {t : TypeId} {f : Fra} (h : Blk W B t (regA f)) {n : Nat} (hn : n < 8) (v : Int) : Blk (W.setCell ⟨B, n, none⟩ (.int .i64 v)) B t (regA (f.put n v)) := by
  rw [← reg_set f hn]
  exact h.set _ _
theorem reg_cell {W : World} {B : Nat} {t : TypeId} {f : Fra} (h : Blk W B t (regA f)) {n : Nat} (hn : n < 8) : W.cell? ⟨B, n, none⟩ = some (.int .i64 (f.get n)) := h.cell (reg_get f hn)

set_option maxRecDepth 100000 in
set_option maxHeartbeats 3200000 in
theorem rstep_none {lo hi : Nat} {v1 v2 v3 : Value} {p : Prg} (w : World) (h : PrgAt lo hi w v1 v2 v3 p) (hs : Small p) (f : Fra) (hx : atF p f = none) :
    Calls Try.prog 14 #[.agg #[v1, v2, v3], fraV f] w fun e w' => e = .returned (.tuple #[fraV Fra.zero, .int .i64 2]) ∧ Below w.heap.size w w' := by
  obtain ⟨wf, hwf⟩ : ∃ wf, wf = ((w.alloc (.cells #[v1, v2, v3] 26)).alloc (.cells (fraA f) 29)).alloc (.cells (fraA Fra.zero) 29) := ⟨_, rfl⟩
  have hB : Below w.heap.size w wf := by rw [hwf]; exact below3 w _ _ _
  have hP : Blk wf w.heap.size 26 #[v1, v2, v3] := by rw [hwf]; exact ((blk_new w _ _).alloc _).alloc _
  have hF : FrAt wf (w.heap.size + 1) f := by rw [hwf]; exact (blk_at (by simp)).alloc _
  have hZ : Blk wf (w.heap.size + 1 + 1) 29 (fraA Fra.zero) := by rw [hwf]; exact blk_at (by simp)
  have hsz : wf.heap.size = w.heap.size + 1 + 1 + 1 := by rw [hwf]; simp
  have hc := rmay_any wf (h.later hB) hs f
  go_enter Try.func14, Try.ntmps14
  go_wp2_with fail
  rw [show (#[.int .i64 0, .int .i64 0, .int .i64 0, .int .i64 0, .int .i64 0, .int .i64 0, .int .i64 0, .int .i64 0, .int .i64 0, .int .i64 0] : Array Value) = fraA Fra.zero from rfl, ← hwf]
  clear hwf
  refine hc.mono ?_
  rintro e w1 ⟨rfl, hb⟩
  have hB1 := below_next hB hb (Nat.le_refl _)
  have hP1 := hP.later hb hP.lt
  have hF1 := hF.later hb hF.lt
  have hZ1 := hZ.later hb hZ.lt
  have hs1 : w.heap.size + 1 + 1 + 1 ≤ w1.heap.size := by rw [← hsz]; exact hb.size
  clear hc hB hb hP hF hZ hsz
  rw [hx, show (none : Option In).isSome = false from rfl]
  obtain ⟨z0, z1, z2, z3, z4, z5, z6, z7, z8, z9⟩ := fra_cells hZ1
  have zf := hZ1.frozen
  obtain ⟨w9, hw9, hX9, hb9⟩ : ∃ w9, w9 = ((((((((((w1.setCell ⟨w.heap.size + 1 + 1, 0, none⟩ (.int .i64 0)).setCell ⟨w.heap.size + 1 + 1, 1, none⟩ (.int .i64 0)).setCell ⟨w.heap.size + 1 + 1, 2, none⟩ (.int .i64 0)).setCell ⟨w.heap.size + 1 + 1, 3, none⟩ (.int .i64 0)).setCell ⟨w.heap.size + 1 + 1, 4, none⟩ (.int .i64 0)).setCell ⟨w.heap.size + 1 + 1, 5, none⟩ (.int .i64 0)).setCell ⟨w.heap.size + 1 + 1, 6, none⟩ (.int .i64 0)).setCell ⟨w.heap.size + 1 + 1, 7, none⟩ (.int .i64 0)).setCell ⟨w.heap.size + 1 + 1, 8, none⟩ (.int .i64 0)).setCell ⟨w.heap.size + 1 + 1, 9, none⟩ (.int .i64 0)) ∧ Blk w9 (w.heap.size + 1 + 1) 29 (fraA Fra.zero) ∧ But [w.heap.size + 1 + 1] w1 w9 := ⟨_, rfl, sto10 hZ1 (.int .i64 0) (.int .i64 0) (.int .i64 0) (.int .i64 0) (.int .i64 0) (.int .i64 0) (.int .i64 0) (.int .i64 0) (.int .i64 0) (.int .i64 0)⟩
  have hB9 := below_but hB1 hb9 (Nat.le_refl _) (by omega)
  go_wp2_with fail
  rw [← hw9]
  obtain ⟨g0, g1, g2, g3, g4, g5, g6, g7, g8, g9⟩ := fra_cells hX9
  refine bodyPost_ret (v := .tuple #[fraV Fra.zero, .int .i64 2]) (by simp [results, Try.f14, go_sem, g0, g1, g2, g3, g4, g5, g6, g7, g8, g9, Fra.zero]) rfl ?_
  exact ⟨rfl, hB9⟩
set_option maxRecDepth 100000 in
set_option maxHeartbeats 3200000 in
theorem rstep_other {lo hi : Nat} {v1 v2 v3 : Value} {p : Prg} (w : World) (h : PrgAt lo hi w v1 v2 v3 p) (hs : Small p) (f : Fra) {x : In} (hx : atF p f = some x) (hl : locO x.o = false) :
    Calls Try.prog 14 #[.agg #[v1, v2, v3], fraV f] w fun e w' => e = .returned (.tuple #[fraV Fra.zero, .int .i64 8]) ∧ Below w.heap.size w w' := by
  obtain ⟨wf, hwf⟩ : ∃ wf, wf = ((w.alloc (.cells #[v1, v2, v3] 26)).alloc (.cells (fraA f) 29)).alloc (.cells (fraA Fra.zero) 29) := ⟨_, rfl⟩
  have hB : Below w.heap.size w wf := by rw [hwf]; exact below3 w _ _ _
  have hP : Blk wf w.heap.size 26 #[v1, v2, v3] := by rw [hwf]; exact ((blk_new w _ _).alloc _).alloc _
  have hF : FrAt wf (w.heap.size + 1) f := by rw [hwf]; exact (blk_at (by simp)).alloc _
  have hZ : Blk wf (w.heap.size + 1 + 1) 29 (fraA Fra.zero) := by rw [hwf]; exact blk_at (by simp)
  have hsz : wf.heap.size = w.heap.size + 1 + 1 + 1 := by rw [hwf]; simp
  have hc := rmay_any wf (h.later hB) hs f
  go_enter Try.func14, Try.ntmps14
  go_wp2_with fail
  rw [show (#[.int .i64 0, .int .i64 0, .int .i64 0, .int .i64 0, .int .i64 0, .int .i64 0, .int .i64 0, .int .i64 0, .int .i64 0, .int .i64 0] : Array Value) = fraA Fra.zero from rfl, ← hwf]
  clear hwf
  refine hc.mono ?_
  rintro e w1 ⟨rfl, hb⟩
  have hB1 := below_next hB hb (Nat.le_refl _)
  have hP1 := hP.later hb hP.lt
  have hF1 := hF.later hb hF.lt
  have hZ1 := hZ.later hb hZ.lt
  have hs1 : w.heap.size + 1 + 1 + 1 ≤ w1.heap.size := by rw [← hsz]; exact hb.size
  clear hc hB hb hP hF hZ hsz
  have hat : Calls Try.prog 12 #[.agg #[v1, v2, v3], fraV f] w1 fun e w' => e = .returned (.agg #[.int .u8 (x.o : Int), .int .i64 x.a, .int .i64 x.b, .int .i64 x.c, .int .i64 x.k]) ∧ Below w1.heap.size w1 w' := rat_any w1 (h.later hB1) f hx
  rw [hx, show (some x : Option In).isSome = true from rfl]
  have p0 := hP1.cell (k := 0) (v := v1) rfl
  have p1 := hP1.cell (k := 1) (v := v2) rfl
  have p2 := hP1.cell (k := 2) (v := v3) rfl
  obtain ⟨q0, q1, q2, q3, q4, q5, q6, q7, q8, q9⟩ := fra_cells hF1
  go_wp2_with fail
  refine hat.mono ?_
  clear hat p0 p1 p2 q0 q1 q2 q3 q4 q5 q6 q7 q8 q9
  rintro e w3 ⟨rfl, hb3⟩
  have hB3 := below_next hB1 hb3 (Nat.le_refl _)
  have hF3 := hF1.later hb3 hF1.lt
  have hZ3 := hZ1.later hb3 hZ1.lt
  have hs3 : w.heap.size + 1 + 1 + 1 ≤ w3.heap.size := Nat.le_trans hs1 hb3.size
  obtain ⟨w4, hw4⟩ : ∃ w4, w4 = w3.alloc (.cells #[.int .u8 (x.o : Int), .int .i64 x.a, .int .i64 x.b, .int .i64 x.c, .int .i64 x.k] 33) := ⟨_, rfl⟩
  obtain ⟨Y, hY⟩ : ∃ Y, Y = w3.heap.size := ⟨_, rfl⟩
  have hB4 : Below w.heap.size w w4 := by rw [hw4]; exact hB3.alloc hB3.size _
  have hF4 : FrAt w4 (w.heap.size + 1) f := by rw [hw4]; exact hF3.alloc _
  have hZ4 : FrAt w4 (w.heap.size + 1 + 1) Fra.zero := by rw [hw4]; exact hZ3.alloc _
  have hY4 : Blk w4 Y 33 #[.int .u8 (x.o : Int), .int .i64 x.a, .int .i64 x.b, .int .i64 x.c, .int .i64 x.k] := by rw [hw4, hY]; exact blk_new w3 _ _
  have hs4 : w4.heap.size = Y + 1 := by rw [hw4, hY]; simp
  have hYl : w.heap.size + 1 + 1 < Y := by omega
  clear hB1 hP1 hF1 hZ1 hs1 hb3 hB3 hF3 hZ3 hs3
  have hloc := rlocal_any x.o w4
  rw [hl, hw4] at hloc
  have y0 := hY4.cell (k := 0) (v := .int .u8 (x.o : Int)) rfl
  rw [hw4, hY] at y0
  obtain ⟨z0, z1, z2, z3, z4, z5, z6, z7, z8, z9⟩ := fra_cells hZ4
  have zf := hZ4.frozen
  obtain ⟨w9, hw9, hX9, hb9⟩ : ∃ w9, w9 = ((((((((((w4.setCell ⟨w.heap.size + 1 + 1, 0, none⟩ (.int .i64 0)).setCell ⟨w.heap.size + 1 + 1, 1, none⟩ (.int .i64 0)).setCell ⟨w.heap.size + 1 + 1, 2, none⟩ (.int .i64 0)).setCell ⟨w.heap.size + 1 + 1, 3, none⟩ (.int .i64 0)).setCell ⟨w.heap.size + 1 + 1, 4, none⟩ (.int .i64 0)).setCell ⟨w.heap.size + 1 + 1, 5, none⟩ (.int .i64 0)).setCell ⟨w.heap.size + 1 + 1, 6, none⟩ (.int .i64 0)).setCell ⟨w.heap.size + 1 + 1, 7, none⟩ (.int .i64 0)).setCell ⟨w.heap.size + 1 + 1, 8, none⟩ (.int .i64 0)).setCell ⟨w.heap.size + 1 + 1, 9, none⟩ (.int .i64 0)) ∧ Blk w9 (w.heap.size + 1 + 1) 29 (fraA Fra.zero) ∧ But [w.heap.size + 1 + 1] w4 w9 := ⟨_, rfl, sto10 hZ4 (.int .i64 0) (.int .i64 0) (.int .i64 0) (.int .i64 0) (.int .i64 0) (.int .i64 0) (.int .i64 0) (.int .i64 0) (.int .i64 0) (.int .i64 0)⟩
  have hB9 := below_but hB4 hb9 (Nat.le_refl _) (by omega)
  rw [hw4] at z0 z1 z2 z3 z4 z5 z6 z7 z8 z9 zf hw9
  go_wp2_with (go_at_call 27; refine hloc.mono ?_; rintro e w' ⟨rfl, rfl⟩)
  rw [← hw9]
  obtain ⟨g0, g1, g2, g3, g4, g5, g6, g7, g8, g9⟩ := fra_cells hX9
  refine bodyPost_ret (v := .tuple #[fraV Fra.zero, .int .i64 8]) (by simp [results, Try.f14, go_sem, g0, g1, g2, g3, g4, g5, g6, g7, g8, g9, Fra.zero]) rfl ?_
  exact ⟨rfl, hB9⟩
set_option maxRecDepth 100000 in
set_option maxHeartbeats 3200000 in
theorem rstep_1 {lo hi : Nat} {v1 v2 v3 : Value} {p : Prg} (w : World) (h : PrgAt lo hi w v1 v2 v3 p) (hs : Small p) (f : Fra) {n m : Nat} {c k : Int} (hx : atF p f = some ⟨1, (n : Int), (m : Int), c, k⟩) (hn : n < 8) (hm : m < 8) (hp : 0 ≤ f.p ∧ f.p ≤ 1000000) :
    Calls Try.prog 14 #[.agg #[v1, v2, v3], fraV f] w fun e w' => e = .returned (.tuple #[fraV ((f.put n k).goto (f.p + 1)), .int .i64 0]) ∧ Below w.heap.size w w' := by
  obtain ⟨wf, hwf⟩ : ∃ wf, wf = ((w.alloc (.cells #[v1, v2, v3] 26)).alloc (.cells (fraA f) 29)).alloc (.cells (fraA Fra.zero) 29) := ⟨_, rfl⟩
  have hB : Below w.heap.size w wf := by rw [hwf]; exact below3 w _ _ _
  have hP : Blk wf w.heap.size 26 #[v1, v2, v3] := by rw [hwf]; exact ((blk_new w _ _).alloc _).alloc _
  have hF : FrAt wf (w.heap.size + 1) f := by rw [hwf]; exact (blk_at (by simp)).alloc _
  have hZ : Blk wf (w.heap.size + 1 + 1) 29 (fraA Fra.zero) := by rw [hwf]; exact blk_at (by simp)
  have hsz : wf.heap.size = w.heap.size + 1 + 1 + 1 := by rw [hwf]; simp
  have hc := rmay_any wf (h.later hB) hs f
  go_enter Try.func14, Try.ntmps14
  go_wp2_with fail
  rw [show (#[.int .i64 0, .int .i64 0, .int .i64 0, .int .i64 0, .int .i64 0, .int .i64 0, .int .i64 0, .int .i64 0, .int .i64 0, .int .i64 0] : Array Value) = fraA Fra.zero from rfl, ← hwf]
  clear hwf
  refine hc.mono ?_
  rintro e w1 ⟨rfl, hb⟩
  have hB1 := below_next hB hb (Nat.le_refl _)
  have hP1 := hP.later hb hP.lt
  have hF1 := hF.later hb hF.lt
  have hZ1 := hZ.later hb hZ.lt
  have hs1 : w.heap.size + 1 + 1 + 1 ≤ w1.heap.size := by rw [← hsz]; exact hb.size
  clear hc hB hb hP hF hZ hsz
  have hat : Calls Try.prog 12 #[.agg #[v1, v2, v3], fraV f] w1 fun e w' => e = .returned (.agg #[.int .u8 1, .int .i64 (n : Int), .int .i64 (m : Int), .int .i64 c, .int .i64 k]) ∧ Below w1.heap.size w1 w' := rat_any w1 (h.later hB1) f hx
  rw [hx, show (some ⟨1, (n : Int), (m : Int), c, k⟩ : Option In).isSome = true from rfl]
  have p0 := hP1.cell (k := 0) (v := v1) rfl
  have p1 := hP1.cell (k := 1) (v := v2) rfl
  have p2 := hP1.cell (k := 2) (v := v3) rfl
  obtain ⟨q0, q1, q2, q3, q4, q5, q6, q7, q8, q9⟩ := fra_cells hF1
  go_wp2_with fail
  refine hat.mono ?_
  clear hat p0 p1 p2 q0 q1 q2 q3 q4 q5 q6 q7 q8 q9
  rintro e w3 ⟨rfl, hb3⟩
  have hB3 := below_next hB1 hb3 (Nat.le_refl _)
  have hF3 := hF1.later hb3 hF1.lt
  have hZ3 := hZ1.later hb3 hZ1.lt
  have hs3 : w.heap.size + 1 + 1 + 1 ≤ w3.heap.size := Nat.le_trans hs1 hb3.size
  obtain ⟨w4, hw4⟩ : ∃ w4, w4 = w3.alloc (.cells #[.int .u8 1, .int .i64 (n : Int), .int .i64 (m : Int), .int .i64 c, .int .i64 k] 33) := ⟨_, rfl⟩
  obtain ⟨Y, hY⟩ : ∃ Y, Y = w3.heap.size := ⟨_, rfl⟩
  have hB4 : Below w.heap.size w w4 := by rw [hw4]; exact hB3.alloc hB3.size _
  have hF4 : FrAt w4 (w.heap.size + 1) f := by rw [hw4]; exact hF3.alloc _
  have hZ4 : FrAt w4 (w.heap.size + 1 + 1) Fra.zero := by rw [hw4]; exact hZ3.alloc _
  have hY4 : Blk w4 Y 33 #[.int .u8 1, .int .i64 (n : Int), .int .i64 (m : Int), .int .i64 c, .int .i64 k] := by rw [hw4, hY]; exact blk_new w3 _ _
  have hs4 : w4.heap.size = Y + 1 := by rw [hw4, hY]; simp
  have hYl : w.heap.size + 1 + 1 < Y := by omega
  clear hB1 hP1 hF1 hZ1 hs1 hb3 hB3 hF3 hZ3 hs3
  have hloc : Calls Try.prog 27 #[.int .u8 1] w4 fun e w' => e = .returned (.bool true) ∧ w' = w4 := rlocal_any 1 w4
  rw [hw4] at hloc
  have hra : ∀ W, Calls Try.prog 28 #[.int .i64 (n : Int)] W fun e w' => e = .returned (.bool true) ∧ w' = W := fun W => by
    have := rreg_any (n : Int) W
    rw [regB_iff.2 ⟨by omega, by omega⟩] at this
    exact this
  have hrb : ∀ W, Calls Try.prog 28 #[.int .i64 (m : Int)] W fun e w' => e = .returned (.bool true) ∧ w' = W := fun W => by
    have := rreg_any (m : Int) W
    rw [regB_iff.2 ⟨by omega, by omega⟩] at this
    exact this
  have n0 : (0 : Int) ≤ (n : Int) := by omega
  have n1 : (n : Int) < 8 := by omega
  have m0 : (0 : Int) ≤ (m : Int) := by omega
  have m1 : (m : Int) < 8 := by omega
  have hwp : IntKind.i64.wrap (f.p + 1) = f.p + 1 := by rw [IntKind.wrap_i64]; omega
  have y0 := hY4.cell (k := 0) (v := .int .u8 1) rfl
  rw [hw4, hY] at y0
  obtain ⟨q0, q1, q2, q3, q4, q5, q6, q7, q8, q9⟩ := fra_cells hF4
  rw [hw4] at q0 q1 q2 q3 q4 q5 q6 q7 q8 q9
  obtain ⟨v4, hv4⟩ : ∃ v4, v4 = w4.alloc (.cells (fraA (f.goto (f.p + 1))) 29) := ⟨_, rfl⟩
  have hF5 : FrAt v4 (w.heap.size + 1) f := by rw [hv4]; exact hF4.alloc _
  obtain ⟨w5, hw5⟩ : ∃ w5, w5 = v4.alloc (.cells (regA f) 27) := ⟨_, rfl⟩
  have hs5 : v4.heap.size = Y + 1 + 1 := by rw [hv4]; simp [hs4]
  have hB5 : Below w.heap.size w w5 := by rw [hw5, hv4]; exact (hB4.alloc hB4.size _).alloc (Nat.le_trans hB4.size (by simp)) _
  have hZ5 : FrAt w5 (w.heap.size + 1 + 1) Fra.zero := by rw [hw5, hv4]; exact (hZ4.alloc _).alloc _
  have hY5 : Blk w5 Y 33 #[.int .u8 1, .int .i64 (n : Int), .int .i64 (m : Int), .int .i64 c, .int .i64 k] := by rw [hw5, hv4]; exact (hY4.alloc _).alloc _
  have hG5 : FrAt w5 (Y + 1) (f.goto (f.p + 1)) := by rw [hw5, hv4]; exact (blk_at hs4.symm).alloc _
  have hR5 : Blk w5 (Y + 1 + 1) 27 (regA f) := by rw [hw5]; exact blk_at hs5.symm
  rw [hw4] at hv4
  go_upto_region 7 with (go_at_call 27; refine hloc.mono ?_; rintro e w' ⟨rfl, rfl⟩)
  rw [show (#[.int .i64 f.c, .int .i64 (f.p + 1), .int .i64 f.r0, .int .i64 f.r1, .int .i64 f.r2, .int .i64 f.r3, .int .i64 f.r4, .int .i64 f.r5, .int .i64 f.r6, .int .i64 f.r7] : Array Value) = fraA (f.goto (f.p + 1)) from rfl, ← hv4, ← hY]
  clear hx hF4 hZ4 hY4 hs4 hB4 hv4 hw4 hY hloc y0 q0 q1 q2 q3 q4 q5 q6 q7 q8 q9
  obtain ⟨q0, q1, q2, q3, q4, q5, q6, q7, q8, q9⟩ := fra_cells hF5
  go_upto_region 9 with fail
  rw [show (#[.int .i64 f.r0, .int .i64 f.r1, .int .i64 f.r2, .int .i64 f.r3, .int .i64 f.r4, .int .i64 f.r5, .int .i64 f.r6, .int .i64 f.r7] : Array Value) = regA f from rfl, ← hw5]
  clear hF5 hw5 hs5 q0 q1 q2 q3 q4 q5 q6 q7 q8 q9
  have y0 := hY5.cell (k := 0) (v := .int .u8 1) rfl
  have y1 := hY5.cell (k := 1) (v := .int .i64 (n : Int)) rfl
  have y2 := hY5.cell (k := 2) (v := .int .i64 (m : Int)) rfl
  have y4 := hY5.cell (k := 4) (v := .int .i64 k) rfl
  have rn := reg_cell hR5 hn
  have rm := reg_cell hR5 hm
  have rf := hR5.frozen n
  obtain ⟨gn, hgn⟩ : ∃ gn, gn = f.get n := ⟨_, rfl⟩
  obtain ⟨gm, hgm⟩ : ∃ gm, gm = f.get m := ⟨_, rfl⟩
  rw [← hgn] at rn
  rw [← hgm] at rm
  have HGN := Lib.hid hgn
  have HGM := Lib.hid hgm
  clear hgn hgm
  go_wp2_with fail
  refine (hra _).mono ?_
  rintro e w5 ⟨rfl, rfl⟩
  go_wp2_with fail
  refine (hrb _).mono ?_
  rintro e w5 ⟨rfl, rfl⟩
  go_wp2_with fail
  refine (hra _).mono ?_
  rintro e w5 ⟨rfl, rfl⟩
  go_upto_region 15 with fail
  obtain ⟨w6, hw6⟩ : ∃ w6, w6 = w5.setCell ⟨Y + 1 + 1, n, none⟩ (.int .i64 (k)) := ⟨_, rfl⟩
  have hR6 : Blk w6 (Y + 1 + 1) 27 (regA (f.put n (k))) := by rw [hw6]; exact reg_put hR5 hn _
  have hY6 : Blk w6 Y 33 #[.int .u8 1, .int .i64 (n : Int), .int .i64 (m : Int), .int .i64 c, .int .i64 k] := by rw [hw6]; exact hY5.beside (by simp; try omega) _
  have hG6 : FrAt w6 (Y + 1) (f.goto (f.p + 1)) := by rw [hw6]; exact hG5.beside (by simp) _
  have hZ6 : FrAt w6 (w.heap.size + 1 + 1) Fra.zero := by rw [hw6]; exact hZ5.beside (by simp; try omega) _
  have hB6 : Below w.heap.size w w6 := by rw [hw6]; exact hB5.setCell (by simp; omega) _
  obtain ⟨H, hH⟩ : ∃ H, H = f.put n (k) := ⟨_, rfl⟩
  have hHc : H.c = (f.goto (f.p + 1)).c := by rw [hH]; exact put_c _ _ _
  rw [← hH] at hR6
  have HH : Hid (H = f.put n (k)) := Lib.hid (by rw [hH])
  rw [← hw6]
  clear hB5 hZ5 hY5 hG5 hR5 hw6 hH y0 y1 y2 y4 rn rm rf
  obtain ⟨r0, r1, r2, r3, r4, r5, r6, r7⟩ := reg_cells hR6
  have y0 := hY6.cell (k := 0) (v := .int .u8 1) rfl
  obtain ⟨g0, g1, g2, g3, g4, g5, g6, g7, g8, g9⟩ := fra_cells hG6
  have gf := hG6.frozen
  obtain ⟨w7, hw7, hG7, hb7⟩ : ∃ w7, w7 = ((((((((w6.setCell ⟨Y + 1, 2, none⟩ (.int .i64 H.r0)).setCell ⟨Y + 1, 3, none⟩ (.int .i64 H.r1)).setCell ⟨Y + 1, 4, none⟩ (.int .i64 H.r2)).setCell ⟨Y + 1, 5, none⟩ (.int .i64 H.r3)).setCell ⟨Y + 1, 6, none⟩ (.int .i64 H.r4)).setCell ⟨Y + 1, 7, none⟩ (.int .i64 H.r5)).setCell ⟨Y + 1, 8, none⟩ (.int .i64 H.r6)).setCell ⟨Y + 1, 9, none⟩ (.int .i64 H.r7)) ∧ FrAt w7 (Y + 1) (H.goto (f.p + 1)) ∧ But [Y + 1] w6 w7 := ⟨_, rfl, stoR hG6 H hHc⟩
  have hB7 := below_but hB6 hb7 (Nat.le_refl _) (by omega)
  have hZ7 := but_on hZ6 hb7 (by omega)
  have hY7 := but_on hY6 hb7 (by omega)
  go_upto_region 18 with fail
  rw [← hw7]
  clear hw7 hb7 hB6 hZ6 hY6 hG6 hR6 r0 r1 r2 r3 r4 r5 r6 r7 y0 g0 g1 g2 g3 g4 g5 g6 g7 g8 g9 gf
  have y0 := hY7.cell (k := 0) (v := .int .u8 1) rfl
  have y4 := hY7.cell (k := 4) (v := .int .i64 k) rfl
  have g1 := hG7.cell (k := 1) (v := .int .i64 (f.p + 1)) rfl
  have gf := hG7.frozen 1
  obtain ⟨K, hK⟩ : ∃ K, K = H.goto (f.p + 1) := ⟨_, rfl⟩
  rw [← hK] at hG7
  have HK : Hid (K = (f.put n k).goto (f.p + 1)) := Lib.hid (by rw [hK, HH.out])
  clear hK g1
  obtain ⟨g0, g1, g2, g3, g4, g5, g6, g7, g8, g9⟩ := fra_cells hG7
  obtain ⟨z0, z1, z2, z3, z4, z5, z6, z7, z8, z9⟩ := fra_cells hZ7
  have zf := hZ7.frozen
  obtain ⟨w9, hw9, hX9, hb9⟩ : ∃ w9, w9 = ((((((((((w7.setCell ⟨w.heap.size + 1 + 1, 0, none⟩ (.int .i64 K.c)).setCell ⟨w.heap.size + 1 + 1, 1, none⟩ (.int .i64 K.p)).setCell ⟨w.heap.size + 1 + 1, 2, none⟩ (.int .i64 K.r0)).setCell ⟨w.heap.size + 1 + 1, 3, none⟩ (.int .i64 K.r1)).setCell ⟨w.heap.size + 1 + 1, 4, none⟩ (.int .i64 K.r2)).setCell ⟨w.heap.size + 1 + 1, 5, none⟩ (.int .i64 K.r3)).setCell ⟨w.heap.size + 1 + 1, 6, none⟩ (.int .i64 K.r4)).setCell ⟨w.heap.size + 1 + 1, 7, none⟩ (.int .i64 K.r5)).setCell ⟨w.heap.size + 1 + 1, 8, none⟩ (.int .i64 K.r6)).setCell ⟨w.heap.size + 1 + 1, 9, none⟩ (.int .i64 K.r7)) ∧ Blk w9 (w.heap.size + 1 + 1) 29 (fraA K) ∧ But [w.heap.size + 1 + 1] w7 w9 := ⟨_, rfl, sto10 hZ7 (.int .i64 K.c) (.int .i64 K.p) (.int .i64 K.r0) (.int .i64 K.r1) (.int .i64 K.r2) (.int .i64 K.r3) (.int .i64 K.r4) (.int .i64 K.r5) (.int .i64 K.r6) (.int .i64 K.r7)⟩
  have hB9 := below_but hB7 hb9 (Nat.le_refl _) (by omega)
  go_wp2_with fail
  rw [← hw9]
  clear g0 g1 g2 g3 g4 g5 g6 g7 g8 g9
  obtain ⟨g0, g1, g2, g3, g4, g5, g6, g7, g8, g9⟩ := fra_cells hX9
  refine bodyPost_ret (v := .tuple #[fraV K, .int .i64 0]) (by simp [results, Try.f14, go_sem, g0, g1, g2, g3, g4, g5, g6, g7, g8, g9]) rfl ?_
  exact ⟨by rw [HK.out], hB9⟩
set_option maxRecDepth 100000 in
set_option maxHeartbeats 3200000 in
theorem rstep_2 {lo hi : Nat} {v1 v2 v3 : Value} {p : Prg} (w : World) (h : PrgAt lo hi w v1 v2 v3 p) (hs : Small p) (f : Fra) {n m : Nat} {c k : Int} (hx : atF p f = some ⟨2, (n : Int), (m : Int), c, k⟩) (hn : n < 8) (hm : m < 8) (hp : 0 ≤ f.p ∧ f.p ≤ 1000000) :
    Calls Try.prog 14 #[.agg #[v1, v2, v3], fraV f] w fun e w' => e = .returned (.tuple #[fraV ((f.put n (wrap64 (f.get n + f.get m))).goto (f.p + 1)), .int .i64 0]) ∧ Below w.heap.size w w' := by
  obtain ⟨wf, hwf⟩ : ∃ wf, wf = ((w.alloc (.cells #[v1, v2, v3] 26)).alloc (.cells (fraA f) 29)).alloc (.cells (fraA Fra.zero) 29) := ⟨_, rfl⟩
  have hB : Below w.heap.size w wf := by rw [hwf]; exact below3 w _ _ _
  have hP : Blk wf w.heap.size 26 #[v1, v2, v3] := by rw [hwf]; exact ((blk_new w _ _).alloc _).alloc _
  have hF : FrAt wf (w.heap.size + 1) f := by rw [hwf]; exact (blk_at (by simp)).alloc _
  have hZ : Blk wf (w.heap.size + 1 + 1) 29 (fraA Fra.zero) := by rw [hwf]; exact blk_at (by simp)
  have hsz : wf.heap.size = w.heap.size + 1 + 1 + 1 := by rw [hwf]; simp
  have hc := rmay_any wf (h.later hB) hs f
  go_enter Try.func14, Try.ntmps14
  go_wp2_with fail
  rw [show (#[.int .i64 0, .int .i64 0, .int .i64 0, .int .i64 0, .int .i64 0, .int .i64 0, .int .i64 0, .int .i64 0, .int .i64 0, .int .i64 0] : Array Value) = fraA Fra.zero from rfl, ← hwf]
  clear hwf
  refine hc.mono ?_
  rintro e w1 ⟨rfl, hb⟩
  have hB1 := below_next hB hb (Nat.le_refl _)
  have hP1 := hP.later hb hP.lt
  have hF1 := hF.later hb hF.lt
  have hZ1 := hZ.later hb hZ.lt
  have hs1 : w.heap.size + 1 + 1 + 1 ≤ w1.heap.size := by rw [← hsz]; exact hb.size
  clear hc hB hb hP hF hZ hsz
  have hat : Calls Try.prog 12 #[.agg #[v1, v2, v3], fraV f] w1 fun e w' => e = .returned (.agg #[.int .u8 2, .int .i64 (n : Int), .int .i64 (m : Int), .int .i64 c, .int .i64 k]) ∧ Below w1.heap.size w1 w' := rat_any w1 (h.later hB1) f hx
  rw [hx, show (some ⟨2, (n : Int), (m : Int), c, k⟩ : Option In).isSome = true from rfl]
  have p0 := hP1.cell (k := 0) (v := v1) rfl
  have p1 := hP1.cell (k := 1) (v := v2) rfl
  have p2 := hP1.cell (k := 2) (v := v3) rfl
  obtain ⟨q0, q1, q2, q3, q4, q5, q6, q7, q8, q9⟩ := fra_cells hF1
  go_wp2_with fail
  refine hat.mono ?_
  clear hat p0 p1 p2 q0 q1 q2 q3 q4 q5 q6 q7 q8 q9
  rintro e w3 ⟨rfl, hb3⟩
  have hB3 := below_next hB1 hb3 (Nat.le_refl _)
  have hF3 := hF1.later hb3 hF1.lt
  have hZ3 := hZ1.later hb3 hZ1.lt
  have hs3 : w.heap.size + 1 + 1 + 1 ≤ w3.heap.size := Nat.le_trans hs1 hb3.size
  obtain ⟨w4, hw4⟩ : ∃ w4, w4 = w3.alloc (.cells #[.int .u8 2, .int .i64 (n : Int), .int .i64 (m : Int), .int .i64 c, .int .i64 k] 33) := ⟨_, rfl⟩
  obtain ⟨Y, hY⟩ : ∃ Y, Y = w3.heap.size := ⟨_, rfl⟩
  have hB4 : Below w.heap.size w w4 := by rw [hw4]; exact hB3.alloc hB3.size _
  have hF4 : FrAt w4 (w.heap.size + 1) f := by rw [hw4]; exact hF3.alloc _
  have hZ4 : FrAt w4 (w.heap.size + 1 + 1) Fra.zero := by rw [hw4]; exact hZ3.alloc _
  have hY4 : Blk w4 Y 33 #[.int .u8 2, .int .i64 (n : Int), .int .i64 (m : Int), .int .i64 c, .int .i64 k] := by rw [hw4, hY]; exact blk_new w3 _ _
  have hs4 : w4.heap.size = Y + 1 := by rw [hw4, hY]; simp
  have hYl : w.heap.size + 1 + 1 < Y := by omega
  clear hB1 hP1 hF1 hZ1 hs1 hb3 hB3 hF3 hZ3 hs3
  have hloc : Calls Try.prog 27 #[.int .u8 2] w4 fun e w' => e = .returned (.bool true) ∧ w' = w4 := rlocal_any 2 w4
  rw [hw4] at hloc
  have hra : ∀ W, Calls Try.prog 28 #[.int .i64 (n : Int)] W fun e w' => e = .returned (.bool true) ∧ w' = W := fun W => by
    have := rreg_any (n : Int) W
    rw [regB_iff.2 ⟨by omega, by omega⟩] at this
    exact this
  have hrb : ∀ W, Calls Try.prog 28 #[.int .i64 (m : Int)] W fun e w' => e = .returned (.bool true) ∧ w' = W := fun W => by
    have := rreg_any (m : Int) W
    rw [regB_iff.2 ⟨by omega, by omega⟩] at this
    exact this
  have n0 : (0 : Int) ≤ (n : Int) := by omega
  have n1 : (n : Int) < 8 := by omega
  have m0 : (0 : Int) ≤ (m : Int) := by omega
  have m1 : (m : Int) < 8 := by omega
  have hwp : IntKind.i64.wrap (f.p + 1) = f.p + 1 := by rw [IntKind.wrap_i64]; omega
  have y0 := hY4.cell (k := 0) (v := .int .u8 2) rfl
  rw [hw4, hY] at y0
  obtain ⟨q0, q1, q2, q3, q4, q5, q6, q7, q8, q9⟩ := fra_cells hF4
  rw [hw4] at q0 q1 q2 q3 q4 q5 q6 q7 q8 q9
  obtain ⟨v4, hv4⟩ : ∃ v4, v4 = w4.alloc (.cells (fraA (f.goto (f.p + 1))) 29) := ⟨_, rfl⟩
  have hF5 : FrAt v4 (w.heap.size + 1) f := by rw [hv4]; exact hF4.alloc _
  obtain ⟨w5, hw5⟩ : ∃ w5, w5 = v4.alloc (.cells (regA f) 27) := ⟨_, rfl⟩
  have hs5 : v4.heap.size = Y + 1 + 1 := by rw [hv4]; simp [hs4]
  have hB5 : Below w.heap.size w w5 := by rw [hw5, hv4]; exact (hB4.alloc hB4.size _).alloc (Nat.le_trans hB4.size (by simp)) _
  have hZ5 : FrAt w5 (w.heap.size + 1 + 1) Fra.zero := by rw [hw5, hv4]; exact (hZ4.alloc _).alloc _
  have hY5 : Blk w5 Y 33 #[.int .u8 2, .int .i64 (n : Int), .int .i64 (m : Int), .int .i64 c, .int .i64 k] := by rw [hw5, hv4]; exact (hY4.alloc _).alloc _
  have hG5 : FrAt w5 (Y + 1) (f.goto (f.p + 1)) := by rw [hw5, hv4]; exact (blk_at hs4.symm).alloc _
  have hR5 : Blk w5 (Y + 1 + 1) 27 (regA f) := by rw [hw5]; exact blk_at hs5.symm
  rw [hw4] at hv4
  go_upto_region 7 with (go_at_call 27; refine hloc.mono ?_; rintro e w' ⟨rfl, rfl⟩)
  rw [show (#[.int .i64 f.c, .int .i64 (f.p + 1), .int .i64 f.r0, .int .i64 f.r1, .int .i64 f.r2, .int .i64 f.r3, .int .i64 f.r4, .int .i64 f.r5, .int .i64 f.r6, .int .i64 f.r7] : Array Value) = fraA (f.goto (f.p + 1)) from rfl, ← hv4, ← hY]
  clear hx hF4 hZ4 hY4 hs4 hB4 hv4 hw4 hY hloc y0 q0 q1 q2 q3 q4 q5 q6 q7 q8 q9
  obtain ⟨q0, q1, q2, q3, q4, q5, q6, q7, q8, q9⟩ := fra_cells hF5
  go_upto_region 9 with fail
  rw [show (#[.int .i64 f.r0, .int .i64 f.r1, .int .i64 f.r2, .int .i64 f.r3, .int .i64 f.r4, .int .i64 f.r5, .int .i64 f.r6, .int .i64 f.r7] : Array Value) = regA f from rfl, ← hw5]
  clear hF5 hw5 hs5 q0 q1 q2 q3 q4 q5 q6 q7 q8 q9
  have y0 := hY5.cell (k := 0) (v := .int .u8 2) rfl
  have y1 := hY5.cell (k := 1) (v := .int .i64 (n : Int)) rfl
  have y2 := hY5.cell (k := 2) (v := .int .i64 (m : Int)) rfl
  have y4 := hY5.cell (k := 4) (v := .int .i64 k) rfl
  have rn := reg_cell hR5 hn
  have rm := reg_cell hR5 hm
  have rf := hR5.frozen n
  obtain ⟨gn, hgn⟩ : ∃ gn, gn = f.get n := ⟨_, rfl⟩
  obtain ⟨gm, hgm⟩ : ∃ gm, gm = f.get m := ⟨_, rfl⟩
  rw [← hgn] at rn
  rw [← hgm] at rm
  have HGN := Lib.hid hgn
  have HGM := Lib.hid hgm
  clear hgn hgm
  go_wp2_with fail
  refine (hra _).mono ?_
  rintro e w5 ⟨rfl, rfl⟩
  go_wp2_with fail
  refine (hrb _).mono ?_
  rintro e w5 ⟨rfl, rfl⟩
  go_wp2_with fail
  refine (hra _).mono ?_
  rintro e w5 ⟨rfl, rfl⟩
  go_upto_region 17 with fail
  obtain ⟨w6, hw6⟩ : ∃ w6, w6 = w5.setCell ⟨Y + 1 + 1, n, none⟩ (.int .i64 (wrap64 (gn + gm))) := ⟨_, rfl⟩
  have hR6 : Blk w6 (Y + 1 + 1) 27 (regA (f.put n (wrap64 (gn + gm)))) := by rw [hw6]; exact reg_put hR5 hn _
  have hY6 : Blk w6 Y 33 #[.int .u8 2, .int .i64 (n : Int), .int .i64 (m : Int), .int .i64 c, .int .i64 k] := by rw [hw6]; exact hY5.beside (by simp; try omega) _
  have hG6 : FrAt w6 (Y + 1) (f.goto (f.p + 1)) := by rw [hw6]; exact hG5.beside (by simp) _
  have hZ6 : FrAt w6 (w.heap.size + 1 + 1) Fra.zero := by rw [hw6]; exact hZ5.beside (by simp; try omega) _
  have hB6 : Below w.heap.size w w6 := by rw [hw6]; exact hB5.setCell (by simp; omega) _
  obtain ⟨H, hH⟩ : ∃ H, H = f.put n (wrap64 (gn + gm)) := ⟨_, rfl⟩
  have hHc : H.c = (f.goto (f.p + 1)).c := by rw [hH]; exact put_c _ _ _
  rw [← hH] at hR6
  have HH : Hid (H = f.put n (wrap64 (f.get n + f.get m))) := Lib.hid (by rw [hH, HGN.out, HGM.out])
  rw [← hw6]
  clear hB5 hZ5 hY5 hG5 hR5 hw6 hH y0 y1 y2 y4 rn rm rf
  obtain ⟨r0, r1, r2, r3, r4, r5, r6, r7⟩ := reg_cells hR6
  have y0 := hY6.cell (k := 0) (v := .int .u8 2) rfl
  obtain ⟨g0, g1, g2, g3, g4, g5, g6, g7, g8, g9⟩ := fra_cells hG6
  have gf := hG6.frozen
  obtain ⟨w7, hw7, hG7, hb7⟩ : ∃ w7, w7 = ((((((((w6.setCell ⟨Y + 1, 2, none⟩ (.int .i64 H.r0)).setCell ⟨Y + 1, 3, none⟩ (.int .i64 H.r1)).setCell ⟨Y + 1, 4, none⟩ (.int .i64 H.r2)).setCell ⟨Y + 1, 5, none⟩ (.int .i64 H.r3)).setCell ⟨Y + 1, 6, none⟩ (.int .i64 H.r4)).setCell ⟨Y + 1, 7, none⟩ (.int .i64 H.r5)).setCell ⟨Y + 1, 8, none⟩ (.int .i64 H.r6)).setCell ⟨Y + 1, 9, none⟩ (.int .i64 H.r7)) ∧ FrAt w7 (Y + 1) (H.goto (f.p + 1)) ∧ But [Y + 1] w6 w7 := ⟨_, rfl, stoR hG6 H hHc⟩
  have hB7 := below_but hB6 hb7 (Nat.le_refl _) (by omega)
  have hZ7 := but_on hZ6 hb7 (by omega)
  have hY7 := but_on hY6 hb7 (by omega)
  go_upto_region 18 with fail
  rw [← hw7]
  clear hw7 hb7 hB6 hZ6 hY6 hG6 hR6 r0 r1 r2 r3 r4 r5 r6 r7 y0 g0 g1 g2 g3 g4 g5 g6 g7 g8 g9 gf
  have y0 := hY7.cell (k := 0) (v := .int .u8 2) rfl
  have y4 := hY7.cell (k := 4) (v := .int .i64 k) rfl
  have g1 := hG7.cell (k := 1) (v := .int .i64 (f.p + 1)) rfl
  have gf := hG7.frozen 1
  obtain ⟨K, hK⟩ : ∃ K, K = H.goto (f.p + 1) := ⟨_, rfl⟩
  rw [← hK] at hG7
  have HK : Hid (K = (f.put n (wrap64 (f.get n + f.get m))).goto (f.p + 1)) := Lib.hid (by rw [hK, HH.out])
  clear hK g1
  obtain ⟨g0, g1, g2, g3, g4, g5, g6, g7, g8, g9⟩ := fra_cells hG7
  obtain ⟨z0, z1, z2, z3, z4, z5, z6, z7, z8, z9⟩ := fra_cells hZ7
  have zf := hZ7.frozen
  obtain ⟨w9, hw9, hX9, hb9⟩ : ∃ w9, w9 = ((((((((((w7.setCell ⟨w.heap.size + 1 + 1, 0, none⟩ (.int .i64 K.c)).setCell ⟨w.heap.size + 1 + 1, 1, none⟩ (.int .i64 K.p)).setCell ⟨w.heap.size + 1 + 1, 2, none⟩ (.int .i64 K.r0)).setCell ⟨w.heap.size + 1 + 1, 3, none⟩ (.int .i64 K.r1)).setCell ⟨w.heap.size + 1 + 1, 4, none⟩ (.int .i64 K.r2)).setCell ⟨w.heap.size + 1 + 1, 5, none⟩ (.int .i64 K.r3)).setCell ⟨w.heap.size + 1 + 1, 6, none⟩ (.int .i64 K.r4)).setCell ⟨w.heap.size + 1 + 1, 7, none⟩ (.int .i64 K.r5)).setCell ⟨w.heap.size + 1 + 1, 8, none⟩ (.int .i64 K.r6)).setCell ⟨w.heap.size + 1 + 1, 9, none⟩ (.int .i64 K.r7)) ∧ Blk w9 (w.heap.size + 1 + 1) 29 (fraA K) ∧ But [w.heap.size + 1 + 1] w7 w9 := ⟨_, rfl, sto10 hZ7 (.int .i64 K.c) (.int .i64 K.p) (.int .i64 K.r0) (.int .i64 K.r1) (.int .i64 K.r2) (.int .i64 K.r3) (.int .i64 K.r4) (.int .i64 K.r5) (.int .i64 K.r6) (.int .i64 K.r7)⟩
  have hB9 := below_but hB7 hb9 (Nat.le_refl _) (by omega)
  go_wp2_with fail
  rw [← hw9]
  clear g0 g1 g2 g3 g4 g5 g6 g7 g8 g9
  obtain ⟨g0, g1, g2, g3, g4, g5, g6, g7, g8, g9⟩ := fra_cells hX9
  refine bodyPost_ret (v := .tuple #[fraV K, .int .i64 0]) (by simp [results, Try.f14, go_sem, g0, g1, g2, g3, g4, g5, g6, g7, g8, g9]) rfl ?_
  exact ⟨by rw [HK.out], hB9⟩
set_option maxRecDepth 100000 in
set_option maxHeartbeats 3200000 in
theorem rstep_3 {lo hi : Nat} {v1 v2 v3 : Value} {p : Prg} (w : World) (h : PrgAt lo hi w v1 v2 v3 p) (hs : Small p) (f : Fra) {n m : Nat} {c k : Int} (hx : atF p f = some ⟨3, (n : Int), (m : Int), c, k⟩) (hn : n < 8) (hm : m < 8) (hp : 0 ≤ f.p ∧ f.p ≤ 1000000) :
    Calls Try.prog 14 #[.agg #[v1, v2, v3], fraV f] w fun e w' => e = .returned (.tuple #[fraV (f.goto k), .int .i64 0]) ∧ Below w.heap.size w w' := by
  obtain ⟨wf, hwf⟩ : ∃ wf, wf = ((w.alloc (.cells #[v1, v2, v3] 26)).alloc (.cells (fraA f) 29)).alloc (.cells (fraA Fra.zero) 29) := ⟨_, rfl⟩
  have hB : Below w.heap.size w wf := by rw [hwf]; exact below3 w _ _ _
  have hP : Blk wf w.heap.size 26 #[v1, v2, v3] := by rw [hwf]; exact ((blk_new w _ _).alloc _).alloc _
  have hF : FrAt wf (w.heap.size + 1) f := by rw [hwf]; exact (blk_at (by simp)).alloc _
  have hZ : Blk wf (w.heap.size + 1 + 1) 29 (fraA Fra.zero) := by rw [hwf]; exact blk_at (by simp)
  have hsz : wf.heap.size = w.heap.size + 1 + 1 + 1 := by rw [hwf]; simp
  have hc := rmay_any wf (h.later hB) hs f
  go_enter Try.func14, Try.ntmps14
  go_wp2_with fail
  rw [show (#[.int .i64 0, .int .i64 0, .int .i64 0, .int .i64 0, .int .i64 0, .int .i64 0, .int .i64 0, .int .i64 0, .int .i64 0, .int .i64 0] : Array Value) = fraA Fra.zero from rfl, ← hwf]
  clear hwf
  refine hc.mono ?_
  rintro e w1 ⟨rfl, hb⟩
  have hB1 := below_next hB hb (Nat.le_refl _)
  have hP1 := hP.later hb hP.lt
  have hF1 := hF.later hb hF.lt
  have hZ1 := hZ.later hb hZ.lt
  have hs1 : w.heap.size + 1 + 1 + 1 ≤ w1.heap.size := by rw [← hsz]; exact hb.size
  clear hc hB hb hP hF hZ hsz
  have hat : Calls Try.prog 12 #[.agg #[v1, v2, v3], fraV f] w1 fun e w' => e = .returned (.agg #[.int .u8 3, .int .i64 (n : Int), .int .i64 (m : Int), .int .i64 c, .int .i64 k]) ∧ Below w1.heap.size w1 w' := rat_any w1 (h.later hB1) f hx
  rw [hx, show (some ⟨3, (n : Int), (m : Int), c, k⟩ : Option In).isSome = true from rfl]
  have p0 := hP1.cell (k := 0) (v := v1) rfl
  have p1 := hP1.cell (k := 1) (v := v2) rfl
  have p2 := hP1.cell (k := 2) (v := v3) rfl
  obtain ⟨q0, q1, q2, q3, q4, q5, q6, q7, q8, q9⟩ := fra_cells hF1
  go_wp2_with fail
  refine hat.mono ?_
  clear hat p0 p1 p2 q0 q1 q2 q3 q4 q5 q6 q7 q8 q9
  rintro e w3 ⟨rfl, hb3⟩
  have hB3 := below_next hB1 hb3 (Nat.le_refl _)
  have hF3 := hF1.later hb3 hF1.lt
  have hZ3 := hZ1.later hb3 hZ1.lt
  have hs3 : w.heap.size + 1 + 1 + 1 ≤ w3.heap.size := Nat.le_trans hs1 hb3.size
  obtain ⟨w4, hw4⟩ : ∃ w4, w4 = w3.alloc (.cells #[.int .u8 3, .int .i64 (n : Int), .int .i64 (m : Int), .int .i64 c, .int .i64 k] 33) := ⟨_, rfl⟩
  obtain ⟨Y, hY⟩ : ∃ Y, Y = w3.heap.size := ⟨_, rfl⟩
  have hB4 : Below w.heap.size w w4 := by rw [hw4]; exact hB3.alloc hB3.size _
  have hF4 : FrAt w4 (w.heap.size + 1) f := by rw [hw4]; exact hF3.alloc _
  have hZ4 : FrAt w4 (w.heap.size + 1 + 1) Fra.zero := by rw [hw4]; exact hZ3.alloc _
  have hY4 : Blk w4 Y 33 #[.int .u8 3, .int .i64 (n : Int), .int .i64 (m : Int), .int .i64 c, .int .i64 k] := by rw [hw4, hY]; exact blk_new w3 _ _
  have hs4 : w4.heap.size = Y + 1 := by rw [hw4, hY]; simp
  have hYl : w.heap.size + 1 + 1 < Y := by omega
  clear hB1 hP1 hF1 hZ1 hs1 hb3 hB3 hF3 hZ3 hs3
  have hloc : Calls Try.prog 27 #[.int .u8 3] w4 fun e w' => e = .returned (.bool true) ∧ w' = w4 := rlocal_any 3 w4
  rw [hw4] at hloc
  have hra : ∀ W, Calls Try.prog 28 #[.int .i64 (n : Int)] W fun e w' => e = .returned (.bool true) ∧ w' = W := fun W => by
    have := rreg_any (n : Int) W
    rw [regB_iff.2 ⟨by omega, by omega⟩] at this
    exact this
  have hrb : ∀ W, Calls Try.prog 28 #[.int .i64 (m : Int)] W fun e w' => e = .returned (.bool true) ∧ w' = W := fun W => by
    have := rreg_any (m : Int) W
    rw [regB_iff.2 ⟨by omega, by omega⟩] at this
    exact this
  have n0 : (0 : Int) ≤ (n : Int) := by omega
  have n1 : (n : Int) < 8 := by omega
  have m0 : (0 : Int) ≤ (m : Int) := by omega
  have m1 : (m : Int) < 8 := by omega
  have hwp : IntKind.i64.wrap (f.p + 1) = f.p + 1 := by rw [IntKind.wrap_i64]; omega
  have y0 := hY4.cell (k := 0) (v := .int .u8 3) rfl
  rw [hw4, hY] at y0
  obtain ⟨q0, q1, q2, q3, q4, q5, q6, q7, q8, q9⟩ := fra_cells hF4
  rw [hw4] at q0 q1 q2 q3 q4 q5 q6 q7 q8 q9
  obtain ⟨v4, hv4⟩ : ∃ v4, v4 = w4.alloc (.cells (fraA (f.goto (f.p + 1))) 29) := ⟨_, rfl⟩
  have hF5 : FrAt v4 (w.heap.size + 1) f := by rw [hv4]; exact hF4.alloc _
  obtain ⟨w5, hw5⟩ : ∃ w5, w5 = v4.alloc (.cells (regA f) 27) := ⟨_, rfl⟩
  have hs5 : v4.heap.size = Y + 1 + 1 := by rw [hv4]; simp [hs4]
  have hB5 : Below w.heap.size w w5 := by rw [hw5, hv4]; exact (hB4.alloc hB4.size _).alloc (Nat.le_trans hB4.size (by simp)) _
  have hZ5 : FrAt w5 (w.heap.size + 1 + 1) Fra.zero := by rw [hw5, hv4]; exact (hZ4.alloc _).alloc _
  have hY5 : Blk w5 Y 33 #[.int .u8 3, .int .i64 (n : Int), .int .i64 (m : Int), .int .i64 c, .int .i64 k] := by rw [hw5, hv4]; exact (hY4.alloc _).alloc _
  have hG5 : FrAt w5 (Y + 1) (f.goto (f.p + 1)) := by rw [hw5, hv4]; exact (blk_at hs4.symm).alloc _
  have hR5 : Blk w5 (Y + 1 + 1) 27 (regA f) := by rw [hw5]; exact blk_at hs5.symm
  rw [hw4] at hv4
  go_upto_region 7 with (go_at_call 27; refine hloc.mono ?_; rintro e w' ⟨rfl, rfl⟩)
  rw [show (#[.int .i64 f.c, .int .i64 (f.p + 1), .int .i64 f.r0, .int .i64 f.r1, .int .i64 f.r2, .int .i64 f.r3, .int .i64 f.r4, .int .i64 f.r5, .int .i64 f.r6, .int .i64 f.r7] : Array Value) = fraA (f.goto (f.p + 1)) from rfl, ← hv4, ← hY]
  clear hx hF4 hZ4 hY4 hs4 hB4 hv4 hw4 hY hloc y0 q0 q1 q2 q3 q4 q5 q6 q7 q8 q9
  obtain ⟨q0, q1, q2, q3, q4, q5, q6, q7, q8, q9⟩ := fra_cells hF5
  go_upto_region 9 with fail
  rw [show (#[.int .i64 f.r0, .int .i64 f.r1, .int .i64 f.r2, .int .i64 f.r3, .int .i64 f.r4, .int .i64 f.r5, .int .i64 f.r6, .int .i64 f.r7] : Array Value) = regA f from rfl, ← hw5]
  clear hF5 hw5 hs5 q0 q1 q2 q3 q4 q5 q6 q7 q8 q9
  have y0 := hY5.cell (k := 0) (v := .int .u8 3) rfl
  have y1 := hY5.cell (k := 1) (v := .int .i64 (n : Int)) rfl
  have y2 := hY5.cell (k := 2) (v := .int .i64 (m : Int)) rfl
  have y4 := hY5.cell (k := 4) (v := .int .i64 k) rfl
  have rn := reg_cell hR5 hn
  have rm := reg_cell hR5 hm
  have rf := hR5.frozen n
  obtain ⟨gn, hgn⟩ : ∃ gn, gn = f.get n := ⟨_, rfl⟩
  obtain ⟨gm, hgm⟩ : ∃ gm, gm = f.get m := ⟨_, rfl⟩
  rw [← hgn] at rn
  rw [← hgm] at rm
  have HGN := Lib.hid hgn
  have HGM := Lib.hid hgm
  clear hgn hgm
  go_wp2_with fail
  refine (hra _).mono ?_
  rintro e w5 ⟨rfl, rfl⟩
  go_wp2_with fail
  refine (hrb _).mono ?_
  rintro e w5 ⟨rfl, rfl⟩
  obtain ⟨w6, hw6⟩ : ∃ w6, w6 = w5 := ⟨_, rfl⟩
  obtain ⟨H, hH⟩ : ∃ H, H = f := ⟨_, rfl⟩
  have hHc : H.c = (f.goto (f.p + 1)).c := by rw [hH]; rfl
  have hR6 : Blk w6 (Y + 1 + 1) 27 (regA H) := by rw [hw6, hH]; exact hR5
  have hY6 : Blk w6 Y 33 #[.int .u8 3, .int .i64 (n : Int), .int .i64 (m : Int), .int .i64 c, .int .i64 k] := by rw [hw6]; exact hY5
  have hG6 : FrAt w6 (Y + 1) (f.goto (f.p + 1)) := by rw [hw6]; exact hG5
  have hZ6 : FrAt w6 (w.heap.size + 1 + 1) Fra.zero := by rw [hw6]; exact hZ5
  have hB6 : Below w.heap.size w w6 := by rw [hw6]; exact hB5
  have HH : Hid (H = f) := Lib.hid hH
  go_upto_region 17 with fail
  rw [← hw6]
  clear hB5 hZ5 hY5 hG5 hR5 hw6 hH y0 y1 y2 y4 rn rm rf
  obtain ⟨r0, r1, r2, r3, r4, r5, r6, r7⟩ := reg_cells hR6
  have y0 := hY6.cell (k := 0) (v := .int .u8 3) rfl
  obtain ⟨g0, g1, g2, g3, g4, g5, g6, g7, g8, g9⟩ := fra_cells hG6
  have gf := hG6.frozen
  obtain ⟨w7, hw7, hG7, hb7⟩ : ∃ w7, w7 = ((((((((w6.setCell ⟨Y + 1, 2, none⟩ (.int .i64 H.r0)).setCell ⟨Y + 1, 3, none⟩ (.int .i64 H.r1)).setCell ⟨Y + 1, 4, none⟩ (.int .i64 H.r2)).setCell ⟨Y + 1, 5, none⟩ (.int .i64 H.r3)).setCell ⟨Y + 1, 6, none⟩ (.int .i64 H.r4)).setCell ⟨Y + 1, 7, none⟩ (.int .i64 H.r5)).setCell ⟨Y + 1, 8, none⟩ (.int .i64 H.r6)).setCell ⟨Y + 1, 9, none⟩ (.int .i64 H.r7)) ∧ FrAt w7 (Y + 1) (H.goto (f.p + 1)) ∧ But [Y + 1] w6 w7 := ⟨_, rfl, stoR hG6 H hHc⟩
  have hB7 := below_but hB6 hb7 (Nat.le_refl _) (by omega)
  have hZ7 := but_on hZ6 hb7 (by omega)
  have hY7 := but_on hY6 hb7 (by omega)
  go_upto_region 18 with fail
  rw [← hw7]
  clear hw7 hb7 hB6 hZ6 hY6 hG6 hR6 r0 r1 r2 r3 r4 r5 r6 r7 y0 g0 g1 g2 g3 g4 g5 g6 g7 g8 g9 gf
  have y0 := hY7.cell (k := 0) (v := .int .u8 3) rfl
  have y4 := hY7.cell (k := 4) (v := .int .i64 k) rfl
  have g1 := hG7.cell (k := 1) (v := .int .i64 (f.p + 1)) rfl
  have gf := hG7.frozen 1
  go_upto_region 20 with fail
  obtain ⟨w8, hw8⟩ : ∃ w8, w8 = w7.setCell ⟨Y + 1, 1, none⟩ (.int .i64 k) := ⟨_, rfl⟩
  have hG8 : FrAt w8 (Y + 1) ((H.goto (f.p + 1)).goto k) := by rw [hw8]; exact fra_goto hG7 k
  have hZ8 : FrAt w8 (w.heap.size + 1 + 1) Fra.zero := by rw [hw8]; exact hZ7.beside (by simp; try omega) _
  have hB8 : Below w.heap.size w w8 := by rw [hw8]; exact hB7.setCell (by simp; omega) _
  obtain ⟨K, hK⟩ : ∃ K, K = (H.goto (f.p + 1)).goto k := ⟨_, rfl⟩
  rw [← hK] at hG8
  have HK : Hid (K = f.goto k) := Lib.hid (by rw [hK, HH.out]; rfl)
  rw [← hw8]
  clear hw8 hK hG7 hZ7 hB7 g1 gf y4 y0 hY7
  obtain ⟨g0, g1, g2, g3, g4, g5, g6, g7, g8, g9⟩ := fra_cells hG8
  obtain ⟨z0, z1, z2, z3, z4, z5, z6, z7, z8, z9⟩ := fra_cells hZ8
  have zf := hZ8.frozen
  obtain ⟨w9, hw9, hX9, hb9⟩ : ∃ w9, w9 = ((((((((((w8.setCell ⟨w.heap.size + 1 + 1, 0, none⟩ (.int .i64 K.c)).setCell ⟨w.heap.size + 1 + 1, 1, none⟩ (.int .i64 K.p)).setCell ⟨w.heap.size + 1 + 1, 2, none⟩ (.int .i64 K.r0)).setCell ⟨w.heap.size + 1 + 1, 3, none⟩ (.int .i64 K.r1)).setCell ⟨w.heap.size + 1 + 1, 4, none⟩ (.int .i64 K.r2)).setCell ⟨w.heap.size + 1 + 1, 5, none⟩ (.int .i64 K.r3)).setCell ⟨w.heap.size + 1 + 1, 6, none⟩ (.int .i64 K.r4)).setCell ⟨w.heap.size + 1 + 1, 7, none⟩ (.int .i64 K.r5)).setCell ⟨w.heap.size + 1 + 1, 8, none⟩ (.int .i64 K.r6)).setCell ⟨w.heap.size + 1 + 1, 9, none⟩ (.int .i64 K.r7)) ∧ Blk w9 (w.heap.size + 1 + 1) 29 (fraA K) ∧ But [w.heap.size + 1 + 1] w8 w9 := ⟨_, rfl, sto10 hZ8 (.int .i64 K.c) (.int .i64 K.p) (.int .i64 K.r0) (.int .i64 K.r1) (.int .i64 K.r2) (.int .i64 K.r3) (.int .i64 K.r4) (.int .i64 K.r5) (.int .i64 K.r6) (.int .i64 K.r7)⟩
  have hB9 := below_but hB8 hb9 (Nat.le_refl _) (by omega)
  go_wp2_with fail
  rw [← hw9]
  clear g0 g1 g2 g3 g4 g5 g6 g7 g8 g9
  obtain ⟨g0, g1, g2, g3, g4, g5, g6, g7, g8, g9⟩ := fra_cells hX9
  refine bodyPost_ret (v := .tuple #[fraV K, .int .i64 0]) (by simp [results, Try.f14, go_sem, g0, g1, g2, g3, g4, g5, g6, g7, g8, g9]) rfl ?_
  exact ⟨by rw [HK.out], hB9⟩
set_option maxRecDepth 100000 in
set_option maxHeartbeats 3200000 in
theorem rstep_4 {lo hi : Nat} {v1 v2 v3 : Value} {p : Prg} (w : World) (h : PrgAt lo hi w v1 v2 v3 p) (hs : Small p) (f : Fra) {n m : Nat} {c k : Int} (hx : atF p f = some ⟨4, (n : Int), (m : Int), c, k⟩) (hn : n < 8) (hm : m < 8) (hp : 0 ≤ f.p ∧ f.p ≤ 1000000) {G : Int} (HG : Hid (G = if f.get n = 0 then k else f.p + 1)) :
    Calls Try.prog 14 #[.agg #[v1, v2, v3], fraV f] w fun e w' => e = .returned (.tuple #[fraV (f.goto G), .int .i64 0]) ∧ Below w.heap.size w w' := by
  obtain ⟨wf, hwf⟩ : ∃ wf, wf = ((w.alloc (.cells #[v1, v2, v3] 26)).alloc (.cells (fraA f) 29)).alloc (.cells (fraA Fra.zero) 29) := ⟨_, rfl⟩
  have hB : Below w.heap.size w wf := by rw [hwf]; exact below3 w _ _ _
  have hP : Blk wf w.heap.size 26 #[v1, v2, v3] := by rw [hwf]; exact ((blk_new w _ _).alloc _).alloc _
  have hF : FrAt wf (w.heap.size + 1) f := by rw [hwf]; exact (blk_at (by simp)).alloc _
  have hZ : Blk wf (w.heap.size + 1 + 1) 29 (fraA Fra.zero) := by rw [hwf]; exact blk_at (by simp)
  have hsz : wf.heap.size = w.heap.size + 1 + 1 + 1 := by rw [hwf]; simp
  have hc := rmay_any wf (h.later hB) hs f
  go_enter Try.func14, Try.ntmps14
  go_wp2_with fail
  rw [show (#[.int .i64 0, .int .i64 0, .int .i64 0, .int .i64 0, .int .i64 0, .int .i64 0, .int .i64 0, .int .i64 0, .int .i64 0, .int .i64 0] : Array Value) = fraA Fra.zero from rfl, ← hwf]
  clear hwf
  refine hc.mono ?_
  rintro e w1 ⟨rfl, hb⟩
  have hB1 := below_next hB hb (Nat.le_refl _)
  have hP1 := hP.later hb hP.lt
  have hF1 := hF.later hb hF.lt
  have hZ1 := hZ.later hb hZ.lt
  have hs1 : w.heap.size + 1 + 1 + 1 ≤ w1.heap.size := by rw [← hsz]; exact hb.size
  clear hc hB hb hP hF hZ hsz
  have hat : Calls Try.prog 12 #[.agg #[v1, v2, v3], fraV f] w1 fun e w' => e = .returned (.agg #[.int .u8 4, .int .i64 (n : Int), .int .i64 (m : Int), .int .i64 c, .int .i64 k]) ∧ Below w1.heap.size w1 w' := rat_any w1 (h.later hB1) f hx
  rw [hx, show (some ⟨4, (n : Int), (m : Int), c, k⟩ : Option In).isSome = true from rfl]
  have p0 := hP1.cell (k := 0) (v := v1) rfl
  have p1 := hP1.cell (k := 1) (v := v2) rfl
  have p2 := hP1.cell (k := 2) (v := v3) rfl
  obtain ⟨q0, q1, q2, q3, q4, q5, q6, q7, q8, q9⟩ := fra_cells hF1
  go_wp2_with fail
  refine hat.mono ?_
  clear hat p0 p1 p2 q0 q1 q2 q3 q4 q5 q6 q7 q8 q9
  rintro e w3 ⟨rfl, hb3⟩
  have hB3 := below_next hB1 hb3 (Nat.le_refl _)
  have hF3 := hF1.later hb3 hF1.lt
  have hZ3 := hZ1.later hb3 hZ1.lt
  have hs3 : w.heap.size + 1 + 1 + 1 ≤ w3.heap.size := Nat.le_trans hs1 hb3.size
  obtain ⟨w4, hw4⟩ : ∃ w4, w4 = w3.alloc (.cells #[.int .u8 4, .int .i64 (n : Int), .int .i64 (m : Int), .int .i64 c, .int .i64 k] 33) := ⟨_, rfl⟩
  obtain ⟨Y, hY⟩ : ∃ Y, Y = w3.heap.size := ⟨_, rfl⟩
  have hB4 : Below w.heap.size w w4 := by rw [hw4]; exact hB3.alloc hB3.size _
  have hF4 : FrAt w4 (w.heap.size + 1) f := by rw [hw4]; exact hF3.alloc _
  have hZ4 : FrAt w4 (w.heap.size + 1 + 1) Fra.zero := by rw [hw4]; exact hZ3.alloc _
  have hY4 : Blk w4 Y 33 #[.int .u8 4, .int .i64 (n : Int), .int .i64 (m : Int), .int .i64 c, .int .i64 k] := by rw [hw4, hY]; exact blk_new w3 _ _
  have hs4 : w4.heap.size = Y + 1 := by rw [hw4, hY]; simp
  have hYl : w.heap.size + 1 + 1 < Y := by omega
  clear hB1 hP1 hF1 hZ1 hs1 hb3 hB3 hF3 hZ3 hs3
  have hloc : Calls Try.prog 27 #[.int .u8 4] w4 fun e w' => e = .returned (.bool true) ∧ w' = w4 := rlocal_any 4 w4
  rw [hw4] at hloc
  have hra : ∀ W, Calls Try.prog 28 #[.int .i64 (n : Int)] W fun e w' => e = .returned (.bool true) ∧ w' = W := fun W => by
    have := rreg_any (n : Int) W
    rw [regB_iff.2 ⟨by omega, by omega⟩] at this
    exact this
  have hrb : ∀ W, Calls Try.prog 28 #[.int .i64 (m : Int)] W fun e w' => e = .returned (.bool true) ∧ w' = W := fun W => by
    have := rreg_any (m : Int) W
    rw [regB_iff.2 ⟨by omega, by omega⟩] at this
    exact this
  have n0 : (0 : Int) ≤ (n : Int) := by omega
  have n1 : (n : Int) < 8 := by omega
  have m0 : (0 : Int) ≤ (m : Int) := by omega
  have m1 : (m : Int) < 8 := by omega
  have hwp : IntKind.i64.wrap (f.p + 1) = f.p + 1 := by rw [IntKind.wrap_i64]; omega
  have y0 := hY4.cell (k := 0) (v := .int .u8 4) rfl
  rw [hw4, hY] at y0
  obtain ⟨q0, q1, q2, q3, q4, q5, q6, q7, q8, q9⟩ := fra_cells hF4
  rw [hw4] at q0 q1 q2 q3 q4 q5 q6 q7 q8 q9
  obtain ⟨v4, hv4⟩ : ∃ v4, v4 = w4.alloc (.cells (fraA (f.goto (f.p + 1))) 29) := ⟨_, rfl⟩
  have hF5 : FrAt v4 (w.heap.size + 1) f := by rw [hv4]; exact hF4.alloc _
  obtain ⟨w5, hw5⟩ : ∃ w5, w5 = v4.alloc (.cells (regA f) 27) := ⟨_, rfl⟩
  have hs5 : v4.heap.size = Y + 1 + 1 := by rw [hv4]; simp [hs4]
  have hB5 : Below w.heap.size w w5 := by rw [hw5, hv4]; exact (hB4.alloc hB4.size _).alloc (Nat.le_trans hB4.size (by simp)) _
  have hZ5 : FrAt w5 (w.heap.size + 1 + 1) Fra.zero := by rw [hw5, hv4]; exact (hZ4.alloc _).alloc _
  have hY5 : Blk w5 Y 33 #[.int .u8 4, .int .i64 (n : Int), .int .i64 (m : Int), .int .i64 c, .int .i64 k] := by rw [hw5, hv4]; exact (hY4.alloc _).alloc _
  have hG5 : FrAt w5 (Y + 1) (f.goto (f.p + 1)) := by rw [hw5, hv4]; exact (blk_at hs4.symm).alloc _
  have hR5 : Blk w5 (Y + 1 + 1) 27 (regA f) := by rw [hw5]; exact blk_at hs5.symm
  rw [hw4] at hv4
  go_upto_region 7 with (go_at_call 27; refine hloc.mono ?_; rintro e w' ⟨rfl, rfl⟩)
  rw [show (#[.int .i64 f.c, .int .i64 (f.p + 1), .int .i64 f.r0, .int .i64 f.r1, .int .i64 f.r2, .int .i64 f.r3, .int .i64 f.r4, .int .i64 f.r5, .int .i64 f.r6, .int .i64 f.r7] : Array Value) = fraA (f.goto (f.p + 1)) from rfl, ← hv4, ← hY]
  clear hx hF4 hZ4 hY4 hs4 hB4 hv4 hw4 hY hloc y0 q0 q1 q2 q3 q4 q5 q6 q7 q8 q9
  obtain ⟨q0, q1, q2, q3, q4, q5, q6, q7, q8, q9⟩ := fra_cells hF5
  go_upto_region 9 with fail
  rw [show (#[.int .i64 f.r0, .int .i64 f.r1, .int .i64 f.r2, .int .i64 f.r3, .int .i64 f.r4, .int .i64 f.r5, .int .i64 f.r6, .int .i64 f.r7] : Array Value) = regA f from rfl, ← hw5]
  clear hF5 hw5 hs5 q0 q1 q2 q3 q4 q5 q6 q7 q8 q9
  have y0 := hY5.cell (k := 0) (v := .int .u8 4) rfl
  have y1 := hY5.cell (k := 1) (v := .int .i64 (n : Int)) rfl
  have y2 := hY5.cell (k := 2) (v := .int .i64 (m : Int)) rfl
  have y4 := hY5.cell (k := 4) (v := .int .i64 k) rfl
  have rn := reg_cell hR5 hn
  have rm := reg_cell hR5 hm
  have rf := hR5.frozen n
  obtain ⟨gn, hgn⟩ : ∃ gn, gn = f.get n := ⟨_, rfl⟩
  obtain ⟨gm, hgm⟩ : ∃ gm, gm = f.get m := ⟨_, rfl⟩
  rw [← hgn] at rn
  rw [← hgm] at rm
  have HGN := Lib.hid hgn
  have HGM := Lib.hid hgm
  clear hgn hgm
  go_wp2_with fail
  refine (hra _).mono ?_
  rintro e w5 ⟨rfl, rfl⟩
  go_wp2_with fail
  refine (hrb _).mono ?_
  rintro e w5 ⟨rfl, rfl⟩
  obtain ⟨w6, hw6⟩ : ∃ w6, w6 = w5 := ⟨_, rfl⟩
  obtain ⟨H, hH⟩ : ∃ H, H = f := ⟨_, rfl⟩
  have hHc : H.c = (f.goto (f.p + 1)).c := by rw [hH]; rfl
  have hR6 : Blk w6 (Y + 1 + 1) 27 (regA H) := by rw [hw6, hH]; exact hR5
  have hY6 : Blk w6 Y 33 #[.int .u8 4, .int .i64 (n : Int), .int .i64 (m : Int), .int .i64 c, .int .i64 k] := by rw [hw6]; exact hY5
  have hG6 : FrAt w6 (Y + 1) (f.goto (f.p + 1)) := by rw [hw6]; exact hG5
  have hZ6 : FrAt w6 (w.heap.size + 1 + 1) Fra.zero := by rw [hw6]; exact hZ5
  have hB6 : Below w.heap.size w w6 := by rw [hw6]; exact hB5
  have HH : Hid (H = f) := Lib.hid hH
  go_upto_region 17 with fail
  rw [← hw6]
  clear hB5 hZ5 hY5 hG5 hR5 hw6 hH y0 y1 y2 y4 rn rm rf
  obtain ⟨r0, r1, r2, r3, r4, r5, r6, r7⟩ := reg_cells hR6
  have y0 := hY6.cell (k := 0) (v := .int .u8 4) rfl
  obtain ⟨g0, g1, g2, g3, g4, g5, g6, g7, g8, g9⟩ := fra_cells hG6
  have gf := hG6.frozen
  obtain ⟨w7, hw7, hG7, hb7⟩ : ∃ w7, w7 = ((((((((w6.setCell ⟨Y + 1, 2, none⟩ (.int .i64 H.r0)).setCell ⟨Y + 1, 3, none⟩ (.int .i64 H.r1)).setCell ⟨Y + 1, 4, none⟩ (.int .i64 H.r2)).setCell ⟨Y + 1, 5, none⟩ (.int .i64 H.r3)).setCell ⟨Y + 1, 6, none⟩ (.int .i64 H.r4)).setCell ⟨Y + 1, 7, none⟩ (.int .i64 H.r5)).setCell ⟨Y + 1, 8, none⟩ (.int .i64 H.r6)).setCell ⟨Y + 1, 9, none⟩ (.int .i64 H.r7)) ∧ FrAt w7 (Y + 1) (H.goto (f.p + 1)) ∧ But [Y + 1] w6 w7 := ⟨_, rfl, stoR hG6 H hHc⟩
  have hB7 := below_but hB6 hb7 (Nat.le_refl _) (by omega)
  have hZ7 := but_on hZ6 hb7 (by omega)
  have hY7 := but_on hY6 hb7 (by omega)
  go_upto_region 18 with fail
  rw [← hw7]
  clear hw7 hb7 hB6 hZ6 hY6 hG6 hR6 r0 r1 r2 r3 r4 r5 r6 r7 y0 g0 g1 g2 g3 g4 g5 g6 g7 g8 g9 gf
  have y0 := hY7.cell (k := 0) (v := .int .u8 4) rfl
  have y4 := hY7.cell (k := 4) (v := .int .i64 k) rfl
  have g1 := hG7.cell (k := 1) (v := .int .i64 (f.p + 1)) rfl
  have gf := hG7.frozen 1
  by_cases hz : gn = 0
  · have hzb : (gn == 0) = true := by simpa using hz
    have HE : Hid (G = k) := Lib.hid (HG.out.trans (if_pos (by rw [← HGN.out]; exact hz)))
    clear hz
    go_upto_region 20 with fail
    obtain ⟨w8, hw8⟩ : ∃ w8, w8 = w7.setCell ⟨Y + 1, 1, none⟩ (.int .i64 k) := ⟨_, rfl⟩
    have hG8 : FrAt w8 (Y + 1) ((H.goto (f.p + 1)).goto k) := by rw [hw8]; exact fra_goto hG7 k
    have hZ8 : FrAt w8 (w.heap.size + 1 + 1) Fra.zero := by rw [hw8]; exact hZ7.beside (by simp; try omega) _
    have hB8 : Below w.heap.size w w8 := by rw [hw8]; exact hB7.setCell (by simp; omega) _
    obtain ⟨K, hK⟩ : ∃ K, K = (H.goto (f.p + 1)).goto k := ⟨_, rfl⟩
    rw [← hK] at hG8
    have HK : Hid (K = f.goto k) := Lib.hid (by rw [hK, HH.out]; rfl)
    rw [← hw8]
    clear hw8 hK hG7 hZ7 hB7 g1 gf y4 y0 hY7
    obtain ⟨g0, g1, g2, g3, g4, g5, g6, g7, g8, g9⟩ := fra_cells hG8
    obtain ⟨z0, z1, z2, z3, z4, z5, z6, z7, z8, z9⟩ := fra_cells hZ8
    have zf := hZ8.frozen
    obtain ⟨w9, hw9, hX9, hb9⟩ : ∃ w9, w9 = ((((((((((w8.setCell ⟨w.heap.size + 1 + 1, 0, none⟩ (.int .i64 K.c)).setCell ⟨w.heap.size + 1 + 1, 1, none⟩ (.int .i64 K.p)).setCell ⟨w.heap.size + 1 + 1, 2, none⟩ (.int .i64 K.r0)).setCell ⟨w.heap.size + 1 + 1, 3, none⟩ (.int .i64 K.r1)).setCell ⟨w.heap.size + 1 + 1, 4, none⟩ (.int .i64 K.r2)).setCell ⟨w.heap.size + 1 + 1, 5, none⟩ (.int .i64 K.r3)).setCell ⟨w.heap.size + 1 + 1, 6, none⟩ (.int .i64 K.r4)).setCell ⟨w.heap.size + 1 + 1, 7, none⟩ (.int .i64 K.r5)).setCell ⟨w.heap.size + 1 + 1, 8, none⟩ (.int .i64 K.r6)).setCell ⟨w.heap.size + 1 + 1, 9, none⟩ (.int .i64 K.r7)) ∧ Blk w9 (w.heap.size + 1 + 1) 29 (fraA K) ∧ But [w.heap.size + 1 + 1] w8 w9 := ⟨_, rfl, sto10 hZ8 (.int .i64 K.c) (.int .i64 K.p) (.int .i64 K.r0) (.int .i64 K.r1) (.int .i64 K.r2) (.int .i64 K.r3) (.int .i64 K.r4) (.int .i64 K.r5) (.int .i64 K.r6) (.int .i64 K.r7)⟩
    have hB9 := below_but hB8 hb9 (Nat.le_refl _) (by omega)
    go_wp2_with fail
    rw [← hw9]
    clear g0 g1 g2 g3 g4 g5 g6 g7 g8 g9
    obtain ⟨g0, g1, g2, g3, g4, g5, g6, g7, g8, g9⟩ := fra_cells hX9
    refine bodyPost_ret (v := .tuple #[fraV K, .int .i64 0]) (by simp [results, Try.f14, go_sem, g0, g1, g2, g3, g4, g5, g6, g7, g8, g9]) rfl ?_
    exact ⟨by rw [HK.out, HE.out], hB9⟩
  · have hzb : (gn == 0) = false := by simpa using hz
    have HE : Hid (G = f.p + 1) := Lib.hid (HG.out.trans (if_neg (by rw [← HGN.out]; exact hz)))
    clear hz
    obtain ⟨K, hK⟩ : ∃ K, K = H.goto (f.p + 1) := ⟨_, rfl⟩
    rw [← hK] at hG7
    have HK : Hid (K = f.goto (f.p + 1)) := Lib.hid (by rw [hK, HH.out])
    clear hK g1
    obtain ⟨g0, g1, g2, g3, g4, g5, g6, g7, g8, g9⟩ := fra_cells hG7
    obtain ⟨z0, z1, z2, z3, z4, z5, z6, z7, z8, z9⟩ := fra_cells hZ7
    have zf := hZ7.frozen
    obtain ⟨w9, hw9, hX9, hb9⟩ : ∃ w9, w9 = ((((((((((w7.setCell ⟨w.heap.size + 1 + 1, 0, none⟩ (.int .i64 K.c)).setCell ⟨w.heap.size + 1 + 1, 1, none⟩ (.int .i64 K.p)).setCell ⟨w.heap.size + 1 + 1, 2, none⟩ (.int .i64 K.r0)).setCell ⟨w.heap.size + 1 + 1, 3, none⟩ (.int .i64 K.r1)).setCell ⟨w.heap.size + 1 + 1, 4, none⟩ (.int .i64 K.r2)).setCell ⟨w.heap.size + 1 + 1, 5, none⟩ (.int .i64 K.r3)).setCell ⟨w.heap.size + 1 + 1, 6, none⟩ (.int .i64 K.r4)).setCell ⟨w.heap.size + 1 + 1, 7, none⟩ (.int .i64 K.r5)).setCell ⟨w.heap.size + 1 + 1, 8, none⟩ (.int .i64 K.r6)).setCell ⟨w.heap.size + 1 + 1, 9, none⟩ (.int .i64 K.r7)) ∧ Blk w9 (w.heap.size + 1 + 1) 29 (fraA K) ∧ But [w.heap.size + 1 + 1] w7 w9 := ⟨_, rfl, sto10 hZ7 (.int .i64 K.c) (.int .i64 K.p) (.int .i64 K.r0) (.int .i64 K.r1) (.int .i64 K.r2) (.int .i64 K.r3) (.int .i64 K.r4) (.int .i64 K.r5) (.int .i64 K.r6) (.int .i64 K.r7)⟩
    have hB9 := below_but hB7 hb9 (Nat.le_refl _) (by omega)
    go_wp2_with fail
    rw [← hw9]
    clear g0 g1 g2 g3 g4 g5 g6 g7 g8 g9
    obtain ⟨g0, g1, g2, g3, g4, g5, g6, g7, g8, g9⟩ := fra_cells hX9
    refine bodyPost_ret (v := .tuple #[fraV K, .int .i64 0]) (by simp [results, Try.f14, go_sem, g0, g1, g2, g3, g4, g5, g6, g7, g8, g9]) rfl ?_
    exact ⟨by rw [HK.out, HE.out], hB9⟩
end Go.Proofs.Ytplajidagpimdaa
