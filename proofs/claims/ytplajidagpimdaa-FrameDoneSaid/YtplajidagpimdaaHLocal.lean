/-
  The walks of local, arrived and Step.
-/
import Derived.Test.YtplajidagpimdaaHDoes
namespace Go.Proofs.Ytplajidagpimdaa
open Go.RowKit

/-- Why f can't be done as a local one. -/
def locE (p : Prg) (f : Fra) : Int := match atF p f with
  | none => 2
  | some x => if locO x.o then 0 else 8
theorem at_ok {lo hi : Nat} {v1 v2 v3 : Value} {p : Prg} {w : World} (h : PrgAt lo hi w v1 v2 v3 p) {f : Fra} {x : In} (hx : atF p f = some x) : x.ok := by
  obtain ⟨m, n, c, _, _, hc, hn⟩ := atF_parts hx
  obtain ⟨vs, h1, h2⟩ := h.codes
  have hl := h1.1
  have hm := (List.getElem?_eq_some_iff.1 hc).1
  exact (h2 m _ c (List.getElem?_eq_getElem (by omega)) hc).2 x (List.mem_of_getElem? hn)
theorem at_pc {p : Prg} (hs : Small p) {f : Fra} {x : In} (hx : atF p f = some x) : 0 ≤ f.p ∧ f.p ≤ 1000000 := by
  obtain ⟨m, n, c, _, hp, hc, hn⟩ := atF_parts hx
  have := hs.code c (List.mem_of_getElem? hc)
  have := (List.getElem?_eq_some_iff.1 hn).1
  omega

set_option maxRecDepth 100000 in
set_option maxHeartbeats 1600000 in
theorem local_none {lo hi : Nat} {v1 v2 v3 : Value} {p : Prg} (w : World) (h : PrgAt lo hi w v1 v2 v3 p) (hs : Small p) (f : Fra) (hx : atF p f = none) :
    Calls Try.prog 24 #[.agg #[v1, v2, v3], fraV f] w fun e w' => ∃ y : In, e = .returned (.tuple #[.agg #[.int .u8 (y.o : Int), .int .i64 y.a, .int .i64 y.b, .int .i64 y.c, .int .i64 y.k], .int .i64 2]) ∧ y = (atF p f).getD In.zero ∧ Below w.heap.size w w' := by
  obtain ⟨wf, hwf⟩ : ∃ wf, wf = ((w.alloc (.cells #[v1, v2, v3] 26)).alloc (.cells (fraA f) 29)).alloc (.cells #[.int .u8 0, .int .i64 0, .int .i64 0, .int .i64 0, .int .i64 0] 33) := ⟨_, rfl⟩
  have hB : Below w.heap.size w wf := by rw [hwf]; exact below3 w _ _ _
  have hZ : Blk wf (w.heap.size + 1 + 1) 33 #[.int .u8 0, .int .i64 0, .int .i64 0, .int .i64 0, .int .i64 0] := by rw [hwf]; exact blk_at (by simp)
  have hc := fatP_any wf (h.later hB) hs f
  have hsz : wf.heap.size = w.heap.size + 1 + 1 + 1 := by rw [hwf]; simp
  go_enter Try.func24, Try.ntmps24
  go_wp2_with fail
  rw [← hwf]
  clear hwf
  refine hc.mono ?_
  rintro e w1 ⟨y, rfl, hy, hb⟩
  have hB1 := below_next hB hb (Nat.le_refl _)
  have hZ1 := hZ.later hb hZ.lt
  have hs1 : w.heap.size + 1 + 1 + 1 ≤ w1.heap.size := by rw [← hsz]; exact hb.size
  have HY : Hid (y = (atF p f).getD In.zero) := Lib.hid hy
  rw [hx]
  obtain ⟨w2, hw2⟩ : ∃ w2, w2 = w1.alloc (.cells #[.int .u8 (y.o : Int), .int .i64 y.a, .int .i64 y.b, .int .i64 y.c, .int .i64 y.k] 33) := ⟨_, rfl⟩
  have hZ2 : Blk w2 (w.heap.size + 1 + 1) 33 #[.int .u8 0, .int .i64 0, .int .i64 0, .int .i64 0, .int .i64 0] := by rw [hw2]; exact hZ1.alloc _
  have hY2 : Blk w2 w1.heap.size 33 #[.int .u8 (y.o : Int), .int .i64 y.a, .int .i64 y.b, .int .i64 y.c, .int .i64 y.k] := by rw [hw2]; exact blk_new w1 _ _
  have hB2 : Below w.heap.size w w2 := by rw [hw2]; exact hB1.alloc hB1.size _
  have hs2 : w.heap.size + 1 + 1 + 1 ≤ w2.heap.size := by rw [hw2]; simp; omega
  obtain ⟨Y, hY⟩ : ∃ Y, Y = w1.heap.size := ⟨_, rfl⟩
  rw [← hY] at hY2
  clear hc hB hb hZ hZ1 hB1 hsz hy
  obtain ⟨i0, i1, i2, i3, i4⟩ := ins_cells (x := y) hY2
  obtain ⟨z0, z1, z2, z3, z4⟩ := ins_cells (x := In.zero) hZ2
  have zf := hZ2.frozen
  obtain ⟨w5, hw5, hX5, hb5⟩ : ∃ w5, w5 = (((((w2.setCell ⟨w.heap.size + 1 + 1, 0, none⟩ (.int .u8 (y.o : Int))).setCell ⟨w.heap.size + 1 + 1, 1, none⟩ (.int .i64 y.a)).setCell ⟨w.heap.size + 1 + 1, 2, none⟩ (.int .i64 y.b)).setCell ⟨w.heap.size + 1 + 1, 3, none⟩ (.int .i64 y.c)).setCell ⟨w.heap.size + 1 + 1, 4, none⟩ (.int .i64 y.k)) ∧ Blk w5 (w.heap.size + 1 + 1) 33 #[.int .u8 (y.o : Int), .int .i64 y.a, .int .i64 y.b, .int .i64 y.c, .int .i64 y.k] ∧ But [w.heap.size + 1 + 1] w2 w5 := ⟨_, rfl, sto5 hZ2 (.int .u8 (y.o : Int)) (.int .i64 y.a) (.int .i64 y.b) (.int .i64 y.c) (.int .i64 y.k)⟩
  have hB5 := below_but hB2 hb5 (Nat.le_refl _) (by omega)
  rw [hw2] at i0 i1 i2 i3 i4 z0 z1 z2 z3 z4 zf hw5
  rw [hY] at i0 i1 i2 i3 i4
  go_wp2_with fail
  rw [← hw5]
  obtain ⟨q0, q1, q2, q3, q4⟩ := ins_cells (x := y) hX5
  refine bodyPost_ret (v := .tuple #[.agg #[.int .u8 (y.o : Int), .int .i64 y.a, .int .i64 y.b, .int .i64 y.c, .int .i64 y.k], .int .i64 2]) (by simp [results, Try.f24, go_sem, q0, q1, q2, q3, q4]) rfl ?_
  exact ⟨y, rfl, HY.out, hB5⟩

set_option maxRecDepth 100000 in
set_option maxHeartbeats 1600000 in
theorem local_other {lo hi : Nat} {v1 v2 v3 : Value} {p : Prg} (w : World) (h : PrgAt lo hi w v1 v2 v3 p) (hs : Small p) (f : Fra) {x : In} (hx : atF p f = some x) (hl : locO x.o = false) :
    Calls Try.prog 24 #[.agg #[v1, v2, v3], fraV f] w fun e w' => ∃ y : In, e = .returned (.tuple #[.agg #[.int .u8 (y.o : Int), .int .i64 y.a, .int .i64 y.b, .int .i64 y.c, .int .i64 y.k], .int .i64 8]) ∧ y = (atF p f).getD In.zero ∧ Below w.heap.size w w' := by
  obtain ⟨wf, hwf⟩ : ∃ wf, wf = ((w.alloc (.cells #[v1, v2, v3] 26)).alloc (.cells (fraA f) 29)).alloc (.cells #[.int .u8 0, .int .i64 0, .int .i64 0, .int .i64 0, .int .i64 0] 33) := ⟨_, rfl⟩
  have hB : Below w.heap.size w wf := by rw [hwf]; exact below3 w _ _ _
  have hZ : Blk wf (w.heap.size + 1 + 1) 33 #[.int .u8 0, .int .i64 0, .int .i64 0, .int .i64 0, .int .i64 0] := by rw [hwf]; exact blk_at (by simp)
  have hc := fatP_any wf (h.later hB) hs f
  have hsz : wf.heap.size = w.heap.size + 1 + 1 + 1 := by rw [hwf]; simp
  have hxo := (at_ok h hx).o
  go_enter Try.func24, Try.ntmps24
  go_wp2_with fail
  rw [← hwf]
  clear hwf
  refine hc.mono ?_
  rintro e w1 ⟨y, rfl, hy, hb⟩
  have hB1 := below_next hB hb (Nat.le_refl _)
  have hZ1 := hZ.later hb hZ.lt
  have hs1 : w.heap.size + 1 + 1 + 1 ≤ w1.heap.size := by rw [← hsz]; exact hb.size
  have HY : Hid (y = (atF p f).getD In.zero) := Lib.hid hy
  rw [hx]
  rw [hx] at hy
  obtain rfl : y = x := hy
  obtain ⟨w2, hw2⟩ : ∃ w2, w2 = w1.alloc (.cells #[.int .u8 (y.o : Int), .int .i64 y.a, .int .i64 y.b, .int .i64 y.c, .int .i64 y.k] 33) := ⟨_, rfl⟩
  have hZ2 : Blk w2 (w.heap.size + 1 + 1) 33 #[.int .u8 0, .int .i64 0, .int .i64 0, .int .i64 0, .int .i64 0] := by rw [hw2]; exact hZ1.alloc _
  have hY2 : Blk w2 w1.heap.size 33 #[.int .u8 (y.o : Int), .int .i64 y.a, .int .i64 y.b, .int .i64 y.c, .int .i64 y.k] := by rw [hw2]; exact blk_new w1 _ _
  have hB2 : Below w.heap.size w w2 := by rw [hw2]; exact hB1.alloc hB1.size _
  have hs2 : w.heap.size + 1 + 1 + 1 ≤ w2.heap.size := by rw [hw2]; simp; omega
  obtain ⟨Y, hY⟩ : ∃ Y, Y = w1.heap.size := ⟨_, rfl⟩
  rw [← hY] at hY2
  clear hc hB hb hZ hZ1 hB1 hsz
  obtain ⟨i0, i1, i2, i3, i4⟩ := ins_cells (x := y) hY2
  obtain ⟨z0, z1, z2, z3, z4⟩ := ins_cells (x := In.zero) hZ2
  have zf := hZ2.frozen
  obtain ⟨w5, hw5, hX5, hb5⟩ : ∃ w5, w5 = (((((w2.setCell ⟨w.heap.size + 1 + 1, 0, none⟩ (.int .u8 (y.o : Int))).setCell ⟨w.heap.size + 1 + 1, 1, none⟩ (.int .i64 y.a)).setCell ⟨w.heap.size + 1 + 1, 2, none⟩ (.int .i64 y.b)).setCell ⟨w.heap.size + 1 + 1, 3, none⟩ (.int .i64 y.c)).setCell ⟨w.heap.size + 1 + 1, 4, none⟩ (.int .i64 y.k)) ∧ Blk w5 (w.heap.size + 1 + 1) 33 #[.int .u8 (y.o : Int), .int .i64 y.a, .int .i64 y.b, .int .i64 y.c, .int .i64 y.k] ∧ But [w.heap.size + 1 + 1] w2 w5 := ⟨_, rfl, sto5 hZ2 (.int .u8 (y.o : Int)) (.int .i64 y.a) (.int .i64 y.b) (.int .i64 y.c) (.int .i64 y.k)⟩
  have hB5 := below_but hB2 hb5 (Nat.le_refl _) (by omega)
  rw [hw2] at i0 i1 i2 i3 i4 z0 z1 z2 z3 z4 zf hw5
  rw [hY] at i0 i1 i2 i3 i4
  have hloc := local_any y.o w2 hxo
  rw [hl, hw2] at hloc
  clear hl
  go_wp2_with (go_at_call 30; refine hloc.mono ?_; rintro e w4 ⟨rfl, rfl⟩)
  rw [← hw5]
  obtain ⟨q0, q1, q2, q3, q4⟩ := ins_cells (x := y) hX5
  refine bodyPost_ret (v := .tuple #[.agg #[.int .u8 (y.o : Int), .int .i64 y.a, .int .i64 y.b, .int .i64 y.c, .int .i64 y.k], .int .i64 8]) (by simp [results, Try.f24, go_sem, q0, q1, q2, q3, q4]) rfl ?_
  exact ⟨y, rfl, HY.out, hB5⟩

set_option maxRecDepth 100000 in
set_option maxHeartbeats 1600000 in
theorem local_local {lo hi : Nat} {v1 v2 v3 : Value} {p : Prg} (w : World) (h : PrgAt lo hi w v1 v2 v3 p) (hs : Small p) (f : Fra) {x : In} (hx : atF p f = some x) (hl : locO x.o = true) (hr : (0 ≤ x.a ∧ x.a < 8) ∧ (0 ≤ x.b ∧ x.b < 8)) :
    Calls Try.prog 24 #[.agg #[v1, v2, v3], fraV f] w fun e w' => ∃ y : In, e = .returned (.tuple #[.agg #[.int .u8 (y.o : Int), .int .i64 y.a, .int .i64 y.b, .int .i64 y.c, .int .i64 y.k], .int .i64 0]) ∧ y = (atF p f).getD In.zero ∧ Below w.heap.size w w' := by
  obtain ⟨wf, hwf⟩ : ∃ wf, wf = ((w.alloc (.cells #[v1, v2, v3] 26)).alloc (.cells (fraA f) 29)).alloc (.cells #[.int .u8 0, .int .i64 0, .int .i64 0, .int .i64 0, .int .i64 0] 33) := ⟨_, rfl⟩
  have hB : Below w.heap.size w wf := by rw [hwf]; exact below3 w _ _ _
  have hZ : Blk wf (w.heap.size + 1 + 1) 33 #[.int .u8 0, .int .i64 0, .int .i64 0, .int .i64 0, .int .i64 0] := by rw [hwf]; exact blk_at (by simp)
  have hc := fatP_any wf (h.later hB) hs f
  have hsz : wf.heap.size = w.heap.size + 1 + 1 + 1 := by rw [hwf]; simp
  have hxo := (at_ok h hx).o
  go_enter Try.func24, Try.ntmps24
  go_wp2_with fail
  rw [← hwf]
  clear hwf
  refine hc.mono ?_
  rintro e w1 ⟨y, rfl, hy, hb⟩
  have hB1 := below_next hB hb (Nat.le_refl _)
  have hZ1 := hZ.later hb hZ.lt
  have hs1 : w.heap.size + 1 + 1 + 1 ≤ w1.heap.size := by rw [← hsz]; exact hb.size
  have HY : Hid (y = (atF p f).getD In.zero) := Lib.hid hy
  rw [hx]
  rw [hx] at hy
  obtain rfl : y = x := hy
  obtain ⟨w2, hw2⟩ : ∃ w2, w2 = w1.alloc (.cells #[.int .u8 (y.o : Int), .int .i64 y.a, .int .i64 y.b, .int .i64 y.c, .int .i64 y.k] 33) := ⟨_, rfl⟩
  have hZ2 : Blk w2 (w.heap.size + 1 + 1) 33 #[.int .u8 0, .int .i64 0, .int .i64 0, .int .i64 0, .int .i64 0] := by rw [hw2]; exact hZ1.alloc _
  have hY2 : Blk w2 w1.heap.size 33 #[.int .u8 (y.o : Int), .int .i64 y.a, .int .i64 y.b, .int .i64 y.c, .int .i64 y.k] := by rw [hw2]; exact blk_new w1 _ _
  have hB2 : Below w.heap.size w w2 := by rw [hw2]; exact hB1.alloc hB1.size _
  have hs2 : w.heap.size + 1 + 1 + 1 ≤ w2.heap.size := by rw [hw2]; simp; omega
  obtain ⟨Y, hY⟩ : ∃ Y, Y = w1.heap.size := ⟨_, rfl⟩
  rw [← hY] at hY2
  clear hc hB hb hZ hZ1 hB1 hsz
  have hn1 := registers_any [y.a, y.b] (Y + 1) (w2.alloc (.cells #[.int .i64 y.a, .int .i64 y.b] 3)) (blk_at (by rw [hw2, World.size_alloc, hY])) (by simp)
  have hall : [y.a, y.b].all regB = true := by simp [regB_iff]; omega
  rw [hall] at hn1
  have HR := Lib.hid hr
  clear hall hr
  obtain ⟨w3, hw3⟩ : ∃ w3, w3 = w2.alloc (.cells #[.int .i64 y.a, .int .i64 y.b] 3) := ⟨_, rfl⟩
  have hY3 : Blk w3 Y 33 #[.int .u8 (y.o : Int), .int .i64 y.a, .int .i64 y.b, .int .i64 y.c, .int .i64 y.k] := by rw [hw3]; exact hY2.alloc _
  have hZ3 : Blk w3 (w.heap.size + 1 + 1) 33 #[.int .u8 0, .int .i64 0, .int .i64 0, .int .i64 0, .int .i64 0] := by rw [hw3]; exact hZ2.alloc _
  have hB3 : Below w.heap.size w w3 := by rw [hw3]; exact hB2.alloc hB2.size _
  rw [← hw3] at hn1
  obtain ⟨i0, i1, i2, i3, i4⟩ := ins_cells (x := y) hY2
  obtain ⟨z0, z1, z2, z3, z4⟩ := ins_cells (x := In.zero) hZ3
  have zf := hZ3.frozen
  obtain ⟨w5, hw5, hX5, hb5⟩ : ∃ w5, w5 = (((((w3.setCell ⟨w.heap.size + 1 + 1, 0, none⟩ (.int .u8 (y.o : Int))).setCell ⟨w.heap.size + 1 + 1, 1, none⟩ (.int .i64 y.a)).setCell ⟨w.heap.size + 1 + 1, 2, none⟩ (.int .i64 y.b)).setCell ⟨w.heap.size + 1 + 1, 3, none⟩ (.int .i64 y.c)).setCell ⟨w.heap.size + 1 + 1, 4, none⟩ (.int .i64 y.k)) ∧ Blk w5 (w.heap.size + 1 + 1) 33 #[.int .u8 (y.o : Int), .int .i64 y.a, .int .i64 y.b, .int .i64 y.c, .int .i64 y.k] ∧ But [w.heap.size + 1 + 1] w3 w5 := ⟨_, rfl, sto5 hZ3 (.int .u8 (y.o : Int)) (.int .i64 y.a) (.int .i64 y.b) (.int .i64 y.c) (.int .i64 y.k)⟩
  have hB5 := below_but hB3 hb5 (Nat.le_refl _) (by omega)
  obtain ⟨j0, j1, j2, j3, j4⟩ := ins_cells (x := y) hY3
  rw [hw2] at i0 i1 i2 i3 i4
  rw [hY] at i0 i1 i2 i3 i4
  have hloc := local_any y.o w2 hxo
  rw [hl, hw2] at hloc
  clear hl
  go_wp2_with (go_at_call 30; refine hloc.mono ?_; rintro e w4 ⟨rfl, rfl⟩)
  rw [← hw2, ← hw3, ← hY]
  refine hn1.mono ?_
  clear hw2 hw3 hY i0 i1 i2 i3 i4
  rintro e w4 ⟨rfl, rfl⟩
  go_wp2_with fail
  rw [← hw5]
  obtain ⟨q0, q1, q2, q3, q4⟩ := ins_cells (x := y) hX5
  refine bodyPost_ret (v := .tuple #[.agg #[.int .u8 (y.o : Int), .int .i64 y.a, .int .i64 y.b, .int .i64 y.c, .int .i64 y.k], .int .i64 0]) (by simp [results, Try.f24, go_sem, q0, q1, q2, q3, q4]) rfl ?_
  exact ⟨y, rfl, HY.out, hB5⟩

theorem local_any2 {lo hi : Nat} {v1 v2 v3 : Value} {p : Prg} (w : World) (h : PrgAt lo hi w v1 v2 v3 p) (hs : Small p) (hm : checkW p = none) (f : Fra) :
    Calls Try.prog 24 #[.agg #[v1, v2, v3], fraV f] w fun e w' => ∃ y : In, e = .returned (.tuple #[.agg #[.int .u8 (y.o : Int), .int .i64 y.a, .int .i64 y.b, .int .i64 y.c, .int .i64 y.k], .int .i64 (locE p f)]) ∧ y = (atF p f).getD In.zero ∧ Below w.heap.size w w' := by
  unfold locE
  cases hx : atF p f with
  | none => have := local_none w h hs f hx; rw [hx] at this; exact this
  | some x =>
    cases hl : locO x.o with
    | false => have := local_other w h hs f hx hl; rw [hx] at this; simp only [hl]; exact this
    | true => have := local_local w h hs f hx hl (at_regs hm hx); rw [hx] at this; simp only [hl]; exact this

end Go.Proofs.Ytplajidagpimdaa
