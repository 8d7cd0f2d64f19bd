/-
  The walks of arrived and Step, in a program that may be.
-/
import Derived.Deep.RegionHeld3
import Derived.Test.YtplajidagpimdaaHLocal
namespace Go.Proofs.Ytplajidagpimdaa
open Go.RowKit

set_option maxRecDepth 100000 in
set_option maxHeartbeats 1600000 in
theorem arrived_ok {lo hi : Nat} {v1 v2 v3 : Value} {p : Prg} (w : World) (h : PrgAt lo hi w v1 v2 v3 p) (hs : Small p) (f : Fra) (hx : (atF p f).isSome = true) :
    Calls Try.prog 26 #[.agg #[v1, v2, v3], fraV f] w fun e w' => e = .returned (.tuple #[fraV f, .int .i64 0]) ∧ Below w.heap.size w w' := by
  obtain ⟨wf, hwf⟩ : ∃ wf, wf = ((w.alloc (.cells #[v1, v2, v3] 26)).alloc (.cells (fraA f) 29)).alloc (.cells (fraA Fra.zero) 29) := ⟨_, rfl⟩
  have hB : Below w.heap.size w wf := by rw [hwf]; exact below3 w _ _ _
  have hZ : Blk wf (w.heap.size + 1 + 1) 29 (fraA Fra.zero) := by rw [hwf]; exact blk_at (by simp)
  have hF : FrAt wf (w.heap.size + 1) f := by rw [hwf]; exact (blk_at (by simp)).alloc _
  have hc := fcheck_any wf (h.later hB) hs f
  rw [hx] at hc
  go_enter Try.func26, Try.ntmps26
  go_wp2_with fail
  rw [show (#[.int .i64 0, .int .i64 0, .int .i64 0, .int .i64 0, .int .i64 0, .int .i64 0, .int .i64 0, .int .i64 0, .int .i64 0, .int .i64 0] : Array Value) = fraA Fra.zero from rfl, ← hwf]
  clear hwf
  refine hc.mono ?_
  rintro e w1 ⟨rfl, hb⟩
  have hB1 := below_next hB hb (Nat.le_refl _)
  have hZ1 := hZ.later hb hZ.lt
  have hF1 := hF.later hb hF.lt
  obtain ⟨q0, q1, q2, q3, q4, q5, q6, q7, q8, q9⟩ := fra_cells hF1
  obtain ⟨z0, z1, z2, z3, z4, z5, z6, z7, z8, z9⟩ := fra_cells hZ1
  have zf := hZ1.frozen
  have hok : okE true = 0 := rfl
  obtain ⟨w5, hw5, hX5, hb5⟩ : ∃ w5, w5 = ((((((((((w1.setCell ⟨w.heap.size + 1 + 1, 0, none⟩ (.int .i64 f.c)).setCell ⟨w.heap.size + 1 + 1, 1, none⟩ (.int .i64 f.p)).setCell ⟨w.heap.size + 1 + 1, 2, none⟩ (.int .i64 f.r0)).setCell ⟨w.heap.size + 1 + 1, 3, none⟩ (.int .i64 f.r1)).setCell ⟨w.heap.size + 1 + 1, 4, none⟩ (.int .i64 f.r2)).setCell ⟨w.heap.size + 1 + 1, 5, none⟩ (.int .i64 f.r3)).setCell ⟨w.heap.size + 1 + 1, 6, none⟩ (.int .i64 f.r4)).setCell ⟨w.heap.size + 1 + 1, 7, none⟩ (.int .i64 f.r5)).setCell ⟨w.heap.size + 1 + 1, 8, none⟩ (.int .i64 f.r6)).setCell ⟨w.heap.size + 1 + 1, 9, none⟩ (.int .i64 f.r7)) ∧ Blk w5 (w.heap.size + 1 + 1) 29 (fraA f) ∧ But [w.heap.size + 1 + 1] w1 w5 := ⟨_, rfl, sto10 hZ1 (.int .i64 f.c) (.int .i64 f.p) (.int .i64 f.r0) (.int .i64 f.r1) (.int .i64 f.r2) (.int .i64 f.r3) (.int .i64 f.r4) (.int .i64 f.r5) (.int .i64 f.r6) (.int .i64 f.r7)⟩
  have hB5 := below_but hB1 hb5 (Nat.le_refl _) (by omega)
  rw [hok]
  clear hc hB hb hZ hF
  go_wp2_with fail
  rw [← hw5]
  clear q0 q1 q2 q3 q4 q5 q6 q7 q8 q9
  obtain ⟨q0, q1, q2, q3, q4, q5, q6, q7, q8, q9⟩ := fra_cells hX5
  refine bodyPost_ret (v := .tuple #[fraV f, .int .i64 0]) (by simp [results, Try.f26, go_sem, q0, q1, q2, q3, q4, q5, q6, q7, q8, q9]) rfl ?_
  exact ⟨rfl, hB5⟩

set_option maxRecDepth 100000 in
set_option maxHeartbeats 3200000 in
theorem step_not {lo hi : Nat} {v1 v2 v3 : Value} {p : Prg} (w : World) (h : PrgAt lo hi w v1 v2 v3 p) (hs : Small p) (hm : checkW p = none) (f : Fra) (he : locE p f ≠ 0) :
    Calls Try.prog 13 #[.agg #[v1, v2, v3], fraV f] w fun e w' => e = .returned (.tuple #[fraV Fra.zero, .int .i64 (locE p f)]) ∧ Below w.heap.size w w' := by
  obtain ⟨wf, hwf⟩ : ∃ wf, wf = ((w.alloc (.cells #[v1, v2, v3] 26)).alloc (.cells (fraA f) 29)).alloc (.cells (fraA Fra.zero) 29) := ⟨_, rfl⟩
  have hB : Below w.heap.size w wf := by rw [hwf]; exact below3 w _ _ _
  have hP : Blk wf w.heap.size 26 #[v1, v2, v3] := by rw [hwf]; exact ((blk_new w _ _).alloc _).alloc _
  have hF : FrAt wf (w.heap.size + 1) f := by rw [hwf]; exact (blk_at (by simp)).alloc _
  have hZ : Blk wf (w.heap.size + 1 + 1) 29 (fraA Fra.zero) := by rw [hwf]; exact blk_at (by simp)
  have hsz : wf.heap.size = w.heap.size + 1 + 1 + 1 := by rw [hwf]; simp
  have hc := local_any2 wf (h.later hB) hs hm f
  go_enter Try.func13, Try.ntmps13
  go_wp2_with fail
  rw [show (#[.int .i64 0, .int .i64 0, .int .i64 0, .int .i64 0, .int .i64 0, .int .i64 0, .int .i64 0, .int .i64 0, .int .i64 0, .int .i64 0] : Array Value) = fraA Fra.zero from rfl, ← hwf]
  clear hwf
  refine hc.mono ?_
  rintro e w1 ⟨y, rfl, hy, hb⟩
  have hB1 := below_next hB hb (Nat.le_refl _)
  have hP1 := hP.later hb hP.lt
  have hF1 := hF.later hb hF.lt
  have hZ1 := hZ.later hb hZ.lt
  have hs1 : w.heap.size + 1 + 1 + 1 ≤ w1.heap.size := by rw [← hsz]; exact hb.size
  obtain ⟨Y, hY⟩ : ∃ Y, Y = w1.heap.size := ⟨_, rfl⟩
  obtain ⟨w2, hw2⟩ : ∃ w2, w2 = w1.alloc (.cells #[.int .u8 (y.o : Int), .int .i64 y.a, .int .i64 y.b, .int .i64 y.c, .int .i64 y.k] 33) := ⟨_, rfl⟩
  have hP2 : Blk w2 w.heap.size 26 #[v1, v2, v3] := by rw [hw2]; exact hP1.alloc _
  have hF2 : FrAt w2 (w.heap.size + 1) f := by rw [hw2]; exact hF1.alloc _
  have hZ2 : Blk w2 (w.heap.size + 1 + 1) 29 (fraA Fra.zero) := by rw [hw2]; exact hZ1.alloc _
  have hY2 : Blk w2 Y 33 #[.int .u8 (y.o : Int), .int .i64 y.a, .int .i64 y.b, .int .i64 y.c, .int .i64 y.k] := by rw [hw2, hY]; exact blk_new w1 _ _
  have hB2 : Below w.heap.size w w2 := by rw [hw2]; exact hB1.alloc hB1.size _
  have hs2 : w.heap.size + 1 + 1 + 1 ≤ w2.heap.size := by rw [hw2]; simp; omega
  clear hc hB hb hP hF hZ hP1 hF1 hZ1 hB1 hsz
  obtain ⟨E, hE⟩ : ∃ E, E = locE p f := ⟨_, rfl⟩
  rw [← hE] at he ⊢
  have heb : (E != 0) = true := by simpa using he
  have hen : (E == 0) = false := by simpa using he
  have HE := Lib.hid hE
  clear hE hy
  obtain ⟨z0, z1, z2, z3, z4, z5, z6, z7, z8, z9⟩ := fra_cells hZ2
  have zf := hZ2.frozen
  obtain ⟨w5, hw5, hX5, hb5⟩ : ∃ w5, w5 = ((((((((((w2.setCell ⟨w.heap.size + 1 + 1, 0, none⟩ (.int .i64 0)).setCell ⟨w.heap.size + 1 + 1, 1, none⟩ (.int .i64 0)).setCell ⟨w.heap.size + 1 + 1, 2, none⟩ (.int .i64 0)).setCell ⟨w.heap.size + 1 + 1, 3, none⟩ (.int .i64 0)).setCell ⟨w.heap.size + 1 + 1, 4, none⟩ (.int .i64 0)).setCell ⟨w.heap.size + 1 + 1, 5, none⟩ (.int .i64 0)).setCell ⟨w.heap.size + 1 + 1, 6, none⟩ (.int .i64 0)).setCell ⟨w.heap.size + 1 + 1, 7, none⟩ (.int .i64 0)).setCell ⟨w.heap.size + 1 + 1, 8, none⟩ (.int .i64 0)).setCell ⟨w.heap.size + 1 + 1, 9, none⟩ (.int .i64 0)) ∧ Blk w5 (w.heap.size + 1 + 1) 29 (fraA Fra.zero) ∧ But [w.heap.size + 1 + 1] w2 w5 := ⟨_, rfl, sto10 hZ2 (.int .i64 0) (.int .i64 0) (.int .i64 0) (.int .i64 0) (.int .i64 0) (.int .i64 0) (.int .i64 0) (.int .i64 0) (.int .i64 0) (.int .i64 0)⟩
  have hB5 := below_but hB2 hb5 (Nat.le_refl _) (by omega)
  rw [hw2] at z0 z1 z2 z3 z4 z5 z6 z7 z8 z9 zf hw5
  clear hw2
  go_wp2_with fail
  rw [← hw5]
  obtain ⟨q0, q1, q2, q3, q4, q5, q6, q7, q8, q9⟩ := fra_cells hX5
  refine bodyPost_ret (v := .tuple #[fraV Fra.zero, .int .i64 E]) (by simp [results, Try.f13, go_sem, q0, q1, q2, q3, q4, q5, q6, q7, q8, q9, Fra.zero]) rfl ?_
  exact ⟨by rw [HE.out], hB5⟩

set_option maxRecDepth 100000 in
set_option maxHeartbeats 3200000 in
theorem step_does {lo hi : Nat} {v1 v2 v3 : Value} {p : Prg} (w : World) (h : PrgAt lo hi w v1 v2 v3 p) (hs : Small p) (hm : checkW p = none) (f : Fra) {x : In} (hx : atF p f = some x) (hl : locO x.o = true) :
    Calls Try.prog 13 #[.agg #[v1, v2, v3], fraV f] w fun e w' => e = .returned (.tuple #[fraV (doF x f), .int .i64 0]) ∧ Below w.heap.size w w' := by
  obtain ⟨wf, hwf⟩ : ∃ wf, wf = ((w.alloc (.cells #[v1, v2, v3] 26)).alloc (.cells (fraA f) 29)).alloc (.cells (fraA Fra.zero) 29) := ⟨_, rfl⟩
  have hB : Below w.heap.size w wf := by rw [hwf]; exact below3 w _ _ _
  have hP : Blk wf w.heap.size 26 #[v1, v2, v3] := by rw [hwf]; exact ((blk_new w _ _).alloc _).alloc _
  have hF : FrAt wf (w.heap.size + 1) f := by rw [hwf]; exact (blk_at (by simp)).alloc _
  have hZ : Blk wf (w.heap.size + 1 + 1) 29 (fraA Fra.zero) := by rw [hwf]; exact blk_at (by simp)
  have hsz : wf.heap.size = w.heap.size + 1 + 1 + 1 := by rw [hwf]; simp
  have hc := local_any2 wf (h.later hB) hs hm f
  go_enter Try.func13, Try.ntmps13
  go_wp2_with fail
  rw [show (#[.int .i64 0, .int .i64 0, .int .i64 0, .int .i64 0, .int .i64 0, .int .i64 0, .int .i64 0, .int .i64 0, .int .i64 0, .int .i64 0] : Array Value) = fraA Fra.zero from rfl, ← hwf]
  clear hwf
  refine hc.mono ?_
  rintro e w1 ⟨y, rfl, hy, hb⟩
  have hB1 := below_next hB hb (Nat.le_refl _)
  have hP1 := hP.later hb hP.lt
  have hF1 := hF.later hb hF.lt
  have hZ1 := hZ.later hb hZ.lt
  have hs1 : w.heap.size + 1 + 1 + 1 ≤ w1.heap.size := by rw [← hsz]; exact hb.size
  obtain ⟨Y, hY⟩ : ∃ Y, Y = w1.heap.size := ⟨_, rfl⟩
  obtain ⟨w2, hw2⟩ : ∃ w2, w2 = w1.alloc (.cells #[.int .u8 (y.o : Int), .int .i64 y.a, .int .i64 y.b, .int .i64 y.c, .int .i64 y.k] 33) := ⟨_, rfl⟩
  have hP2 : Blk w2 w.heap.size 26 #[v1, v2, v3] := by rw [hw2]; exact hP1.alloc _
  have hF2 : FrAt w2 (w.heap.size + 1) f := by rw [hw2]; exact hF1.alloc _
  have hZ2 : Blk w2 (w.heap.size + 1 + 1) 29 (fraA Fra.zero) := by rw [hw2]; exact hZ1.alloc _
  have hY2 : Blk w2 Y 33 #[.int .u8 (y.o : Int), .int .i64 y.a, .int .i64 y.b, .int .i64 y.c, .int .i64 y.k] := by rw [hw2, hY]; exact blk_new w1 _ _
  have hB2 : Below w.heap.size w w2 := by rw [hw2]; exact hB1.alloc hB1.size _
  have hs2 : w.heap.size + 1 + 1 + 1 ≤ w2.heap.size := by rw [hw2]; simp; omega
  clear hc hB hb hP hF hZ hP1 hF1 hZ1 hB1 hsz
  have hE : locE p f = 0 := by unfold locE; rw [hx]; simp only [hl]; rfl
  rw [hE]
  have hxy : y = x := by rw [hy, hx]; rfl
  subst hxy
  obtain ⟨hra, hrb⟩ := at_regs hm hx
  have hpc := at_pc hs hx
  have hat := doF_at hm hx hl
  have hA : ∀ W, But [w.heap.size + 1] w2 W → Blk W Y 33 #[.int .u8 (y.o : Int), .int .i64 y.a, .int .i64 y.b, .int .i64 y.c, .int .i64 y.k] := fun W hW => but_on hY2 hW (by omega)
  have hk0 : ∀ W, But [w.heap.size + 1] w2 W → W.cell? ⟨Y, 0, none⟩ = some (.int .u8 (y.o : Int)) := fun W hW => (hA W hW).cell rfl
  have hk1 : ∀ W, But [w.heap.size + 1] w2 W → W.cell? ⟨Y, 1, none⟩ = some (.int .i64 y.a) := fun W hW => (hA W hW).cell rfl
  have hk2 : ∀ W, But [w.heap.size + 1] w2 W → W.cell? ⟨Y, 2, none⟩ = some (.int .i64 y.b) := fun W hW => (hA W hW).cell rfl
  have hk3 : ∀ W, But [w.heap.size + 1] w2 W → W.cell? ⟨Y, 3, none⟩ = some (.int .i64 y.c) := fun W hW => (hA W hW).cell rfl
  have hk4 : ∀ W, But [w.heap.size + 1] w2 W → W.cell? ⟨Y, 4, none⟩ = some (.int .i64 y.k) := fun W hW => (hA W hW).cell rfl
  have hD0 : But [w.heap.size + 1] w2 w2.drew := (But.refl _ _).drew
  have cdo : ∀ W, Below w2.heap.size w2 W → Calls Try.prog 25 #[.pointer (some ⟨w.heap.size + 1, 0, none⟩)] W fun e w' => ∃ X T1 T2 M, e = .returned (.func (.func 43) #[] #[.pointer (some ⟨X, 0, none⟩), .pointer (some ⟨T1, 0, none⟩)]) ∧ Doer w' (w.heap.size + 1) X T1 T2 M ∧ Below w2.heap.size w2 w' ∧ But [w.heap.size + 1] w2 w' := fun W hW => (doer_any _ W).mono fun e w' ⟨X, h1, h2, _, h3⟩ => ⟨X, _, _, _, h1, h2, below_next hW h3 (Nat.le_refl _), .of_below (below_next hW h3 (Nat.le_refl _)) _⟩
  have cde : ∀ W X T1 T2 M, Below w2.heap.size w2 W → Doer W (w.heap.size + 1) X T1 T2 M → Calls Try.prog 43 #[.agg #[.int .u8 (y.o : Int), .int .i64 y.a, .int .i64 y.b, .int .i64 y.c, .int .i64 y.k], .pointer (some ⟨X, 0, none⟩), .pointer (some ⟨T1, 0, none⟩)] W fun e w' => e = .returned (.tuple #[]) ∧ FrAt w' (w.heap.size + 1) (doF y f) ∧ But [w.heap.size + 1] w2 w' := fun W X T1 T2 M hW hD => (does_any W hD (hF2.later hW hF2.lt) hl hra hrb hpc).mono fun e w' ⟨h1, h2, h3⟩ => ⟨h1, h2, (But.of_below hW _).next h3⟩
  have hBd : Below w2.heap.size w2 w2.drew := (Below.refl _ _).drew
  have HX := Lib.hid hx
  have HL := Lib.hid hl
  have HR := Lib.hid hra
  have HQ := Lib.hid hrb
  have HE := Lib.hid hE
  have HC := Lib.hid hpc
  have HT := Lib.hid hat
  clear hx hl hra hrb hE hpc hat hy hA
  go_wp2_with fail
  rw [← hw2, ← hY]
  clear hw2 hY
  go_region_held3 (fun w' => But [w.heap.size + 1] w2 w' ∧ w'.cell? ⟨Y, 0, none⟩ = some (.int .u8 (y.o : Int)) ∧ w'.cell? ⟨Y, 1, none⟩ = some (.int .i64 y.a) ∧ w'.cell? ⟨Y, 2, none⟩ = some (.int .i64 y.b) ∧ w'.cell? ⟨Y, 3, none⟩ = some (.int .i64 y.c) ∧ w'.cell? ⟨Y, 4, none⟩ = some (.int .i64 y.k))
    (refine ⟨?_, ?_, ?_, ?_, ?_, ?_⟩ <;> first | assumption | exact hk0 _ (by assumption) | exact hk1 _ (by assumption) | exact hk2 _ (by assumption) | exact hk3 _ (by assumption) | exact hk4 _ (by assumption))
    ((first
      | (go_at_call 25; refine (cdo _ (by assumption)).mono ?_; rintro e w3 ⟨X, T1, T2, M, rfl, hD3, hb3, hn3⟩)
      | (go_at_call 43; refine (cde _ _ _ _ _ (by assumption) (by assumption)).mono ?_; rintro e w4 ⟨rfl, hF4, hn4⟩)))
  have hB4 : Below w.heap.size w w4 := below_but hB2 hn4 (Nat.le_refl _) (by omega)
  have hP4 := but_on hP2 hn4 (by omega)
  have hZ4 := but_on hZ2 hn4 (by omega)
  clear cdo cde hk0 hk1 hk2 hk3 hk4 hD0 hD3 hb3 hn3 hBd hn4 hY2 hZ2 hP2 hF2 hB2
  have hT := HT.out
  generalize hg : doF y f = g at hF4 hT ⊢
  have harr := arrived_ok w4 (h.later hB4) hs g hT.1
  have HG := Lib.hid hg
  clear hg hT
  have p0 := hP4.cell (k := 0) (v := v1) rfl
  have p1 := hP4.cell (k := 1) (v := v2) rfl
  have p2 := hP4.cell (k := 2) (v := v3) rfl
  obtain ⟨q0, q1, q2, q3, q4, q5, q6, q7, q8, q9⟩ := fra_cells hF4
  go_wp2_with fail
  refine harr.mono ?_
  rintro e w5 ⟨rfl, hb5⟩
  have hB5 := below_next hB4 hb5 (Nat.le_refl _)
  have hZ5 := hZ4.later hb5 hZ4.lt
  clear harr hB4 hb5 hP4 hZ4 p0 p1 p2 q0 q1 q2 q3 q4 q5 q6 q7 q8 q9 hF4
  obtain ⟨z0, z1, z2, z3, z4, z5, z6, z7, z8, z9⟩ := fra_cells hZ5
  have zf := hZ5.frozen
  obtain ⟨w6, hw6, hX6, hb6⟩ : ∃ w6, w6 = ((((((((((w5.setCell ⟨w.heap.size + 1 + 1, 0, none⟩ (.int .i64 g.c)).setCell ⟨w.heap.size + 1 + 1, 1, none⟩ (.int .i64 g.p)).setCell ⟨w.heap.size + 1 + 1, 2, none⟩ (.int .i64 g.r0)).setCell ⟨w.heap.size + 1 + 1, 3, none⟩ (.int .i64 g.r1)).setCell ⟨w.heap.size + 1 + 1, 4, none⟩ (.int .i64 g.r2)).setCell ⟨w.heap.size + 1 + 1, 5, none⟩ (.int .i64 g.r3)).setCell ⟨w.heap.size + 1 + 1, 6, none⟩ (.int .i64 g.r4)).setCell ⟨w.heap.size + 1 + 1, 7, none⟩ (.int .i64 g.r5)).setCell ⟨w.heap.size + 1 + 1, 8, none⟩ (.int .i64 g.r6)).setCell ⟨w.heap.size + 1 + 1, 9, none⟩ (.int .i64 g.r7)) ∧ Blk w6 (w.heap.size + 1 + 1) 29 (fraA g) ∧ But [w.heap.size + 1 + 1] w5 w6 := ⟨_, rfl, sto10 hZ5 (.int .i64 g.c) (.int .i64 g.p) (.int .i64 g.r0) (.int .i64 g.r1) (.int .i64 g.r2) (.int .i64 g.r3) (.int .i64 g.r4) (.int .i64 g.r5) (.int .i64 g.r6) (.int .i64 g.r7)⟩
  have hB6 := below_but hB5 hb6 (Nat.le_refl _) (by omega)
  go_wp2_with fail
  rw [← hw6]
  obtain ⟨q0, q1, q2, q3, q4, q5, q6, q7, q8, q9⟩ := fra_cells hX6
  refine bodyPost_ret (v := .tuple #[fraV g, .int .i64 0]) (by simp [results, Try.f13, go_sem, q0, q1, q2, q3, q4, q5, q6, q7, q8, q9]) rfl ?_
  exact ⟨by rw [HG.out], hB6⟩

theorem locE_at {p : Prg} {f : Fra} (h : locE p f = 0) : ∃ x, atF p f = some x ∧ locO x.o = true := by
  unfold locE at h
  cases hx : atF p f with
  | none => rw [hx] at h; cases h
  | some x =>
    rw [hx] at h
    cases hl : locO x.o with
    | true => exact ⟨x, rfl, hl⟩
    | false => simp [hl] at h
theorem step_any {lo hi : Nat} {v1 v2 v3 : Value} {p : Prg} (w : World) (h : PrgAt lo hi w v1 v2 v3 p) (hs : Small p) (hm : checkW p = none) (f : Fra) :
    Calls Try.prog 13 #[.agg #[v1, v2, v3], fraV f] w fun e w' => e = .returned (.tuple #[fraV (stepF p f).1, .int .i64 (stepF p f).2]) ∧ Below w.heap.size w w' := by
  by_cases he : locE p f = 0
  · obtain ⟨x, hx, hl⟩ := locE_at he
    have : stepF p f = (doF x f, 0) := by unfold stepF; rw [hx]; simp only [hl]; rfl
    rw [this]
    exact step_does w h hs hm f hx hl
  · have : stepF p f = (Fra.zero, locE p f) := by
      unfold stepF locE
      cases hx : atF p f with
      | none => rfl
      | some x =>
        cases hl : locO x.o with
        | true => exact absurd (by unfold locE; rw [hx]; simp only [hl]; rfl) he
        | false => simp [hl]
    rw [this]
    exact step_not w h hs hm f he

end Go.Proofs.Ytplajidagpimdaa
