/-
  The walk of the law EntryApart.
-/
import Derived.Test.YtengpehiknoheaaDoorEAlive
namespace Go.Proofs.YtengpehiknoheaaDoor
open Go.RowKit Oct

theorem take_extE (S T : List UInt8) : (((⟨T.toArray⟩ : ByteArray).extract 0 S.length).toList == S) = decide (T.take S.length = S) := by
  have : ((⟨T.toArray⟩ : ByteArray).extract 0 S.length) = ⟨(T.take S.length).toArray⟩ := by rw [Lib.extract_eq]; simp
  have e2 : (⟨(T.take S.length).toArray⟩ : ByteArray).toList = T.take S.length := by simp
  rw [this, e2]
  by_cases e : T.take S.length = S <;> simp [e]
theorem putE_one (x : En) : putE [x] = checkE x := by unfold putE checkE; simp
theorem putS_one {x : En} (h : okB x = true) : putS [x] = enL x := by unfold putS; simp [h]
theorem putS_no {x : En} (h : okB x = false) : putS [x] = [] := by unfold putS; simp [h]
theorem en_pre {x y : En} (h1 : x.ok) (h2 : y.ok) (hx : okB x = true) (hy : okB y = true) (h : (enL y).take (enL x).length = enL x) : x = y :=
  enL_pre (r := (enL y).drop (enL x).length) h1 h2 hx hy (by conv => lhs; lhs; rw [← h]
                                                             exact List.take_append_drop _ _)
set_option maxRecDepth 100000 in
set_option maxHeartbeats 6400000 in
theorem eapart_no_no (x y : En) (hx : x.ok) (hy : y.ok) (mx : okB x = false) (my : okB y = false) (w : World) (hv : Vars w) :
    Calls Tryd.prog 5 #[x.val, y.val] w fun e w' => e = .returned (.bool true) ∧ Below w.heap.size w w' := by
  change Calls Tryd.prog 5 #[.agg #[.int .i64 x.a, .int .u8 (x.k : Int), .int .i64 x.w, .int .i64 x.t, .int .i64 x.p, .int .i64 x.c, .int .i64 x.b, .int .i64 x.q, .int .i64 x.v, .int .i64 x.u, .bool x.o, .int .i64 x.e, .int .u64 (x.s : Int)], .agg #[.int .i64 y.a, .int .u8 (y.k : Int), .int .i64 y.w, .int .i64 y.t, .int .i64 y.p, .int .i64 y.c, .int .i64 y.b, .int .i64 y.q, .int .i64 y.v, .int .i64 y.u, .bool y.o, .int .i64 y.e, .int .u64 (y.s : Int)]] w _
  obtain ⟨A, hA⟩ : ∃ A, A = lineV x := ⟨_, rfl⟩
  obtain ⟨B, hB⟩ : ∃ B, B = lineV y := ⟨_, rfl⟩
  obtain ⟨S, hS⟩ : ∃ S, S = putS [x] := ⟨_, rfl⟩
  obtain ⟨T, hT⟩ : ∃ T, T = putS [y] := ⟨_, rfl⟩
  have zx : checkE x = 2 := by unfold checkE; rw [mx]; rfl
  have zy : checkE y = 2 := by unfold checkE; rw [my]; rfl
  have l1 : ∀ W, Vars W → Calls Tryd.prog 7 #[.agg #[.int .i64 x.a, .int .u8 (x.k : Int), .int .i64 x.w, .int .i64 x.t, .int .i64 x.p, .int .i64 x.c, .int .i64 x.b, .int .i64 x.q, .int .i64 x.v, .int .i64 x.u, .bool x.o, .int .i64 x.e, .int .u64 (x.s : Int)]] W fun e w' => e = .returned (.tuple #[.string ⟨A.toArray⟩, .int .i64 2]) ∧ Below W.heap.size W w' := fun W hW => by
    have h := eline_any x hx W hW
    rw [zx, ← hA] at h
    exact h
  have l2 : ∀ W, Vars W → Calls Tryd.prog 7 #[.agg #[.int .i64 y.a, .int .u8 (y.k : Int), .int .i64 y.w, .int .i64 y.t, .int .i64 y.p, .int .i64 y.c, .int .i64 y.b, .int .i64 y.q, .int .i64 y.v, .int .i64 y.u, .bool y.o, .int .i64 y.e, .int .u64 (y.s : Int)]] W fun e w' => e = .returned (.tuple #[.string ⟨B.toArray⟩, .int .i64 2]) ∧ Below W.heap.size W w' := fun W hW => by
    have h := eline_any y hy W hW
    rw [zy, ← hB] at h
    exact h
  have l3 : ∀ W v, EnRow W v [x] → Calls Tryd.prog 9 #[v] W fun e w' => e = .returned (.tuple #[.string ⟨S.toArray⟩, .int .i64 2]) ∧ Below W.heap.size W w' := fun W v hr => by
    have h := eputs_any v [x] W hr (by intro z hz; obtain rfl := List.mem_singleton.1 hz; exact hx) (by simp)
    rw [putE_one, zx, ← hS] at h
    exact h
  have l4 : ∀ W v, EnRow W v [y] → Calls Tryd.prog 9 #[v] W fun e w' => e = .returned (.tuple #[.string ⟨T.toArray⟩, .int .i64 2]) ∧ Below W.heap.size W w' := fun W v hr => by
    have h := eputs_any v [y] W hr (by intro z hz; obtain rfl := List.mem_singleton.1 hz; exact hy) (by simp)
    rw [putE_one, zy, ← hT] at h
    exact h
  have l5 : ∀ W, Calls Tryd.prog 13 #[.agg #[.int .i64 x.a, .int .u8 (x.k : Int), .int .i64 x.w, .int .i64 x.t, .int .i64 x.p, .int .i64 x.c, .int .i64 x.b, .int .i64 x.q, .int .i64 x.v, .int .i64 x.u, .bool x.o, .int .i64 x.e, .int .u64 (x.s : Int)]] W fun e w' => e = .returned (.int .i64 2) ∧ Below W.heap.size W w' := fun W => by
    have h := check_any x hx W
    rw [zx] at h
    exact h
  clear hA hB hS hT zx zy mx my hx hy
  have a0 : Below w.heap.size w ((w.alloc (.cells #[.int .i64 x.a, .int .u8 (x.k : Int), .int .i64 x.w, .int .i64 x.t, .int .i64 x.p, .int .i64 x.c, .int .i64 x.b, .int .i64 x.q, .int .i64 x.v, .int .i64 x.u, .bool x.o, .int .i64 x.e, .int .u64 (x.s : Int)] 26)).alloc (.cells #[.int .i64 y.a, .int .u8 (y.k : Int), .int .i64 y.w, .int .i64 y.t, .int .i64 y.p, .int .i64 y.c, .int .i64 y.b, .int .i64 y.q, .int .i64 y.v, .int .i64 y.u, .bool y.o, .int .i64 y.e, .int .u64 (y.s : Int)] 26)) := below2 w _ _
  have x0 : EnAt ((w.alloc (.cells #[.int .i64 x.a, .int .u8 (x.k : Int), .int .i64 x.w, .int .i64 x.t, .int .i64 x.p, .int .i64 x.c, .int .i64 x.b, .int .i64 x.q, .int .i64 x.v, .int .i64 x.u, .bool x.o, .int .i64 x.e, .int .u64 (x.s : Int)] 26)).alloc (.cells #[.int .i64 y.a, .int .u8 (y.k : Int), .int .i64 y.w, .int .i64 y.t, .int .i64 y.p, .int .i64 y.c, .int .i64 y.b, .int .i64 y.q, .int .i64 y.v, .int .i64 y.u, .bool y.o, .int .i64 y.e, .int .u64 (y.s : Int)] 26)) w.heap.size x := (enAt_new w x).alloc _
  have y0 : EnAt ((w.alloc (.cells #[.int .i64 x.a, .int .u8 (x.k : Int), .int .i64 x.w, .int .i64 x.t, .int .i64 x.p, .int .i64 x.c, .int .i64 x.b, .int .i64 x.q, .int .i64 x.v, .int .i64 x.u, .bool x.o, .int .i64 x.e, .int .u64 (x.s : Int)] 26)).alloc (.cells #[.int .i64 y.a, .int .u8 (y.k : Int), .int .i64 y.w, .int .i64 y.t, .int .i64 y.p, .int .i64 y.c, .int .i64 y.b, .int .i64 y.q, .int .i64 y.v, .int .i64 y.u, .bool y.o, .int .i64 y.e, .int .u64 (y.s : Int)] 26)) (w.heap.size + 1) y := by
    have h := enAt_new (w.alloc (.cells #[.int .i64 x.a, .int .u8 (x.k : Int), .int .i64 x.w, .int .i64 x.t, .int .i64 x.p, .int .i64 x.c, .int .i64 x.b, .int .i64 x.q, .int .i64 x.v, .int .i64 x.u, .bool x.o, .int .i64 x.e, .int .u64 (x.s : Int)] 26)) y
    rwa [World.size_alloc] at h
  obtain ⟨W0, hW0⟩ : ∃ W0, W0 = (w.alloc (.cells #[.int .i64 x.a, .int .u8 (x.k : Int), .int .i64 x.w, .int .i64 x.t, .int .i64 x.p, .int .i64 x.c, .int .i64 x.b, .int .i64 x.q, .int .i64 x.v, .int .i64 x.u, .bool x.o, .int .i64 x.e, .int .u64 (x.s : Int)] 26)).alloc (.cells #[.int .i64 y.a, .int .u8 (y.k : Int), .int .i64 y.w, .int .i64 y.t, .int .i64 y.p, .int .i64 y.c, .int .i64 y.b, .int .i64 y.q, .int .i64 y.v, .int .i64 y.u, .bool y.o, .int .i64 y.e, .int .u64 (y.s : Int)] 26) := ⟨_, rfl⟩
  rw [← hW0] at a0 x0 y0
  have l1' := l1 W0 (hv.below a0)
  have c0 : W0.cell? ⟨w.heap.size, 0, none⟩ = some (.int .i64 x.a) := x0.c0
  have c1 : W0.cell? ⟨w.heap.size, 1, none⟩ = some (.int .u8 (x.k : Int)) := x0.c1
  have c2 : W0.cell? ⟨w.heap.size, 2, none⟩ = some (.int .i64 x.w) := x0.c2
  have c3 : W0.cell? ⟨w.heap.size, 3, none⟩ = some (.int .i64 x.t) := x0.c3
  have c4 : W0.cell? ⟨w.heap.size, 4, none⟩ = some (.int .i64 x.p) := x0.c4
  have c5 : W0.cell? ⟨w.heap.size, 5, none⟩ = some (.int .i64 x.c) := x0.c5
  have c6 : W0.cell? ⟨w.heap.size, 6, none⟩ = some (.int .i64 x.b) := x0.c6
  have c7 : W0.cell? ⟨w.heap.size, 7, none⟩ = some (.int .i64 x.q) := x0.c7
  have c8 : W0.cell? ⟨w.heap.size, 8, none⟩ = some (.int .i64 x.v) := x0.c8
  have c9 : W0.cell? ⟨w.heap.size, 9, none⟩ = some (.int .i64 x.u) := x0.c9
  have c10 : W0.cell? ⟨w.heap.size, 10, none⟩ = some (.bool x.o) := x0.c10
  have c11 : W0.cell? ⟨w.heap.size, 11, none⟩ = some (.int .i64 x.e) := x0.c11
  have c12 : W0.cell? ⟨w.heap.size, 12, none⟩ = some (.int .u64 (x.s : Int)) := x0.c12
  rw [hW0] at l1' c0 c1 c2 c3 c4 c5 c6 c7 c8 c9 c10 c11 c12
  go_enter Tryd.func5, Tryd.ntmps5
  go_wp2_with fail
  refine l1'.mono ?_
  rw [← hW0]
  clear hW0 l1' l1 c0 c1 c2 c3 c4 c5 c6 c7 c8 c9 c10 c11 c12
  rintro e w1 ⟨rfl, b1⟩
  have B1 := below_nx a0 b1 (Nat.le_refl _)
  have x1 : EnAt w1 w.heap.size x := x0.of_block (b1.block _ x0.lt)
  have y1 : EnAt w1 (w.heap.size + 1) y := y0.of_block (b1.block _ y0.lt)
  have d0 : w1.cell? ⟨(w.heap.size + 1), 0, none⟩ = some (.int .i64 y.a) := y1.c0
  have d1 : w1.cell? ⟨(w.heap.size + 1), 1, none⟩ = some (.int .u8 (y.k : Int)) := y1.c1
  have d2 : w1.cell? ⟨(w.heap.size + 1), 2, none⟩ = some (.int .i64 y.w) := y1.c2
  have d3 : w1.cell? ⟨(w.heap.size + 1), 3, none⟩ = some (.int .i64 y.t) := y1.c3
  have d4 : w1.cell? ⟨(w.heap.size + 1), 4, none⟩ = some (.int .i64 y.p) := y1.c4
  have d5 : w1.cell? ⟨(w.heap.size + 1), 5, none⟩ = some (.int .i64 y.c) := y1.c5
  have d6 : w1.cell? ⟨(w.heap.size + 1), 6, none⟩ = some (.int .i64 y.b) := y1.c6
  have d7 : w1.cell? ⟨(w.heap.size + 1), 7, none⟩ = some (.int .i64 y.q) := y1.c7
  have d8 : w1.cell? ⟨(w.heap.size + 1), 8, none⟩ = some (.int .i64 y.v) := y1.c8
  have d9 : w1.cell? ⟨(w.heap.size + 1), 9, none⟩ = some (.int .i64 y.u) := y1.c9
  have d10 : w1.cell? ⟨(w.heap.size + 1), 10, none⟩ = some (.bool y.o) := y1.c10
  have d11 : w1.cell? ⟨(w.heap.size + 1), 11, none⟩ = some (.int .i64 y.e) := y1.c11
  have d12 : w1.cell? ⟨(w.heap.size + 1), 12, none⟩ = some (.int .u64 (y.s : Int)) := y1.c12
  have l2' := l2 w1 (hv.below B1)
  clear b1 a0 x0 y0 l2
  go_wp2_with fail
  refine l2'.mono ?_
  rintro e w2 ⟨rfl, b2⟩
  have B2 := below_nx B1 b2 (Nat.le_refl _)
  have x2 : EnAt w2 w.heap.size x := x1.of_block (b2.block _ x1.lt)
  have y2 : EnAt w2 (w.heap.size + 1) y := y1.of_block (b2.block _ y1.lt)
  clear d0 d1 d2 d3 d4 d5 d6 d7 d8 d9 d10 d11 d12 b2 B1 x1 y1 l2'
  have c0 : w2.cell? ⟨w.heap.size, 0, none⟩ = some (.int .i64 x.a) := x2.c0
  have c1 : w2.cell? ⟨w.heap.size, 1, none⟩ = some (.int .u8 (x.k : Int)) := x2.c1
  have c2 : w2.cell? ⟨w.heap.size, 2, none⟩ = some (.int .i64 x.w) := x2.c2
  have c3 : w2.cell? ⟨w.heap.size, 3, none⟩ = some (.int .i64 x.t) := x2.c3
  have c4 : w2.cell? ⟨w.heap.size, 4, none⟩ = some (.int .i64 x.p) := x2.c4
  have c5 : w2.cell? ⟨w.heap.size, 5, none⟩ = some (.int .i64 x.c) := x2.c5
  have c6 : w2.cell? ⟨w.heap.size, 6, none⟩ = some (.int .i64 x.b) := x2.c6
  have c7 : w2.cell? ⟨w.heap.size, 7, none⟩ = some (.int .i64 x.q) := x2.c7
  have c8 : w2.cell? ⟨w.heap.size, 8, none⟩ = some (.int .i64 x.v) := x2.c8
  have c9 : w2.cell? ⟨w.heap.size, 9, none⟩ = some (.int .i64 x.u) := x2.c9
  have c10 : w2.cell? ⟨w.heap.size, 10, none⟩ = some (.bool x.o) := x2.c10
  have c11 : w2.cell? ⟨w.heap.size, 11, none⟩ = some (.int .i64 x.e) := x2.c11
  have c12 : w2.cell? ⟨w.heap.size, 12, none⟩ = some (.int .u64 (x.s : Int)) := x2.c12
  have l3' := l3 (w2.alloc (.cells #[.int .i64 x.a, .int .u8 (x.k : Int), .int .i64 x.w, .int .i64 x.t, .int .i64 x.p, .int .i64 x.c, .int .i64 x.b, .int .i64 x.q, .int .i64 x.v, .int .i64 x.u, .bool x.o, .int .i64 x.e, .int .u64 (x.s : Int)] 26)) _ (EnRow.one w2 x)
  clear l3
  go_wp2_with fail
  refine l3'.mono ?_
  rintro e w3 ⟨rfl, b3⟩
  have B3 := below_nx (B2.alloc B2.size _) b3 (Nat.le_refl _)
  have x3 : EnAt w3 w.heap.size x := (x2.alloc _).of_block (b3.block _ (x2.alloc _).lt)
  have y3 : EnAt w3 (w.heap.size + 1) y := (y2.alloc _).of_block (b3.block _ (y2.alloc _).lt)
  clear c0 c1 c2 c3 c4 c5 c6 c7 c8 c9 c10 c11 c12 x2 y2 b3 B2 l3'
  have d0 : w3.cell? ⟨(w.heap.size + 1), 0, none⟩ = some (.int .i64 y.a) := y3.c0
  have d1 : w3.cell? ⟨(w.heap.size + 1), 1, none⟩ = some (.int .u8 (y.k : Int)) := y3.c1
  have d2 : w3.cell? ⟨(w.heap.size + 1), 2, none⟩ = some (.int .i64 y.w) := y3.c2
  have d3 : w3.cell? ⟨(w.heap.size + 1), 3, none⟩ = some (.int .i64 y.t) := y3.c3
  have d4 : w3.cell? ⟨(w.heap.size + 1), 4, none⟩ = some (.int .i64 y.p) := y3.c4
  have d5 : w3.cell? ⟨(w.heap.size + 1), 5, none⟩ = some (.int .i64 y.c) := y3.c5
  have d6 : w3.cell? ⟨(w.heap.size + 1), 6, none⟩ = some (.int .i64 y.b) := y3.c6
  have d7 : w3.cell? ⟨(w.heap.size + 1), 7, none⟩ = some (.int .i64 y.q) := y3.c7
  have d8 : w3.cell? ⟨(w.heap.size + 1), 8, none⟩ = some (.int .i64 y.v) := y3.c8
  have d9 : w3.cell? ⟨(w.heap.size + 1), 9, none⟩ = some (.int .i64 y.u) := y3.c9
  have d10 : w3.cell? ⟨(w.heap.size + 1), 10, none⟩ = some (.bool y.o) := y3.c10
  have d11 : w3.cell? ⟨(w.heap.size + 1), 11, none⟩ = some (.int .i64 y.e) := y3.c11
  have d12 : w3.cell? ⟨(w.heap.size + 1), 12, none⟩ = some (.int .u64 (y.s : Int)) := y3.c12
  have l4' := l4 (w3.alloc (.cells #[.int .i64 y.a, .int .u8 (y.k : Int), .int .i64 y.w, .int .i64 y.t, .int .i64 y.p, .int .i64 y.c, .int .i64 y.b, .int .i64 y.q, .int .i64 y.v, .int .i64 y.u, .bool y.o, .int .i64 y.e, .int .u64 (y.s : Int)] 26)) _ (EnRow.one w3 y)
  clear l4
  go_wp2_with fail
  refine l4'.mono ?_
  rintro e w4 ⟨rfl, b4⟩
  have B4 := below_nx (B3.alloc B3.size _) b4 (Nat.le_refl _)
  have x4 : EnAt w4 w.heap.size x := (x3.alloc _).of_block (b4.block _ (x3.alloc _).lt)
  have y4 : EnAt w4 (w.heap.size + 1) y := (y3.alloc _).of_block (b4.block _ (y3.alloc _).lt)
  clear d0 d1 d2 d3 d4 d5 d6 d7 d8 d9 d10 d11 d12 x3 y3 b4 B3 l4'
  have c0 : w4.cell? ⟨w.heap.size, 0, none⟩ = some (.int .i64 x.a) := x4.c0
  have c1 : w4.cell? ⟨w.heap.size, 1, none⟩ = some (.int .u8 (x.k : Int)) := x4.c1
  have c2 : w4.cell? ⟨w.heap.size, 2, none⟩ = some (.int .i64 x.w) := x4.c2
  have c3 : w4.cell? ⟨w.heap.size, 3, none⟩ = some (.int .i64 x.t) := x4.c3
  have c4 : w4.cell? ⟨w.heap.size, 4, none⟩ = some (.int .i64 x.p) := x4.c4
  have c5 : w4.cell? ⟨w.heap.size, 5, none⟩ = some (.int .i64 x.c) := x4.c5
  have c6 : w4.cell? ⟨w.heap.size, 6, none⟩ = some (.int .i64 x.b) := x4.c6
  have c7 : w4.cell? ⟨w.heap.size, 7, none⟩ = some (.int .i64 x.q) := x4.c7
  have c8 : w4.cell? ⟨w.heap.size, 8, none⟩ = some (.int .i64 x.v) := x4.c8
  have c9 : w4.cell? ⟨w.heap.size, 9, none⟩ = some (.int .i64 x.u) := x4.c9
  have c10 : w4.cell? ⟨w.heap.size, 10, none⟩ = some (.bool x.o) := x4.c10
  have c11 : w4.cell? ⟨w.heap.size, 11, none⟩ = some (.int .i64 x.e) := x4.c11
  have c12 : w4.cell? ⟨w.heap.size, 12, none⟩ = some (.int .u64 (x.s : Int)) := x4.c12
  have l5' := l5 w4
  clear l5
  go_wp2_with fail
  refine l5'.mono ?_
  rintro e w5 ⟨rfl, b5⟩
  have B5 := below_nx B4 b5 (Nat.le_refl _)
  have x5 : EnAt w5 w.heap.size x := x4.of_block (b5.block _ x4.lt)
  have y5 : EnAt w5 (w.heap.size + 1) y := y4.of_block (b5.block _ y4.lt)
  clear c0 c1 c2 c3 c4 c5 c6 c7 c8 c9 c10 c11 c12 x4 y4 b5 B4 l5'
  have l6 := ealive_any w5 (hv.below B5)
  go_wp2_with fail
  refine l6.mono ?_
  rintro e w6 ⟨rfl, b6⟩
  have B6 := below_nx B5 b6 (Nat.le_refl _)
  go_wp2_with fail
  go_ret
  exact ⟨rfl, B6⟩
set_option maxRecDepth 100000 in
set_option maxHeartbeats 6400000 in
theorem eapart_yes_no (x y : En) (hx : x.ok) (hy : y.ok) (mx : okB x = true) (my : okB y = false) (w : World) (hv : Vars w) :
    Calls Tryd.prog 5 #[x.val, y.val] w fun e w' => e = .returned (.bool true) ∧ Below w.heap.size w w' := by
  change Calls Tryd.prog 5 #[.agg #[.int .i64 x.a, .int .u8 (x.k : Int), .int .i64 x.w, .int .i64 x.t, .int .i64 x.p, .int .i64 x.c, .int .i64 x.b, .int .i64 x.q, .int .i64 x.v, .int .i64 x.u, .bool x.o, .int .i64 x.e, .int .u64 (x.s : Int)], .agg #[.int .i64 y.a, .int .u8 (y.k : Int), .int .i64 y.w, .int .i64 y.t, .int .i64 y.p, .int .i64 y.c, .int .i64 y.b, .int .i64 y.q, .int .i64 y.v, .int .i64 y.u, .bool y.o, .int .i64 y.e, .int .u64 (y.s : Int)]] w _
  obtain ⟨A, hA⟩ : ∃ A, A = lineV x := ⟨_, rfl⟩
  obtain ⟨B, hB⟩ : ∃ B, B = lineV y := ⟨_, rfl⟩
  obtain ⟨S, hS⟩ : ∃ S, S = putS [x] := ⟨_, rfl⟩
  obtain ⟨T, hT⟩ : ∃ T, T = putS [y] := ⟨_, rfl⟩
  have zx : checkE x = 0 := by unfold checkE; rw [mx]; rfl
  have zy : checkE y = 2 := by unfold checkE; rw [my]; rfl
  have l1 : ∀ W, Vars W → Calls Tryd.prog 7 #[.agg #[.int .i64 x.a, .int .u8 (x.k : Int), .int .i64 x.w, .int .i64 x.t, .int .i64 x.p, .int .i64 x.c, .int .i64 x.b, .int .i64 x.q, .int .i64 x.v, .int .i64 x.u, .bool x.o, .int .i64 x.e, .int .u64 (x.s : Int)]] W fun e w' => e = .returned (.tuple #[.string ⟨A.toArray⟩, .int .i64 0]) ∧ Below W.heap.size W w' := fun W hW => by
    have h := eline_any x hx W hW
    rw [zx, ← hA] at h
    exact h
  have l2 : ∀ W, Vars W → Calls Tryd.prog 7 #[.agg #[.int .i64 y.a, .int .u8 (y.k : Int), .int .i64 y.w, .int .i64 y.t, .int .i64 y.p, .int .i64 y.c, .int .i64 y.b, .int .i64 y.q, .int .i64 y.v, .int .i64 y.u, .bool y.o, .int .i64 y.e, .int .u64 (y.s : Int)]] W fun e w' => e = .returned (.tuple #[.string ⟨B.toArray⟩, .int .i64 2]) ∧ Below W.heap.size W w' := fun W hW => by
    have h := eline_any y hy W hW
    rw [zy, ← hB] at h
    exact h
  have l3 : ∀ W v, EnRow W v [x] → Calls Tryd.prog 9 #[v] W fun e w' => e = .returned (.tuple #[.string ⟨S.toArray⟩, .int .i64 0]) ∧ Below W.heap.size W w' := fun W v hr => by
    have h := eputs_any v [x] W hr (by intro z hz; obtain rfl := List.mem_singleton.1 hz; exact hx) (by simp)
    rw [putE_one, zx, ← hS] at h
    exact h
  have l4 : ∀ W v, EnRow W v [y] → Calls Tryd.prog 9 #[v] W fun e w' => e = .returned (.tuple #[.string ⟨T.toArray⟩, .int .i64 2]) ∧ Below W.heap.size W w' := fun W v hr => by
    have h := eputs_any v [y] W hr (by intro z hz; obtain rfl := List.mem_singleton.1 hz; exact hy) (by simp)
    rw [putE_one, zy, ← hT] at h
    exact h
  have l5 : ∀ W, Calls Tryd.prog 13 #[.agg #[.int .i64 x.a, .int .u8 (x.k : Int), .int .i64 x.w, .int .i64 x.t, .int .i64 x.p, .int .i64 x.c, .int .i64 x.b, .int .i64 x.q, .int .i64 x.v, .int .i64 x.u, .bool x.o, .int .i64 x.e, .int .u64 (x.s : Int)]] W fun e w' => e = .returned (.int .i64 0) ∧ Below W.heap.size W w' := fun W => by
    have h := check_any x hx W
    rw [zx] at h
    exact h
  clear hA hB hS hT zx zy mx my hx hy
  have a0 : Below w.heap.size w ((w.alloc (.cells #[.int .i64 x.a, .int .u8 (x.k : Int), .int .i64 x.w, .int .i64 x.t, .int .i64 x.p, .int .i64 x.c, .int .i64 x.b, .int .i64 x.q, .int .i64 x.v, .int .i64 x.u, .bool x.o, .int .i64 x.e, .int .u64 (x.s : Int)] 26)).alloc (.cells #[.int .i64 y.a, .int .u8 (y.k : Int), .int .i64 y.w, .int .i64 y.t, .int .i64 y.p, .int .i64 y.c, .int .i64 y.b, .int .i64 y.q, .int .i64 y.v, .int .i64 y.u, .bool y.o, .int .i64 y.e, .int .u64 (y.s : Int)] 26)) := below2 w _ _
  have x0 : EnAt ((w.alloc (.cells #[.int .i64 x.a, .int .u8 (x.k : Int), .int .i64 x.w, .int .i64 x.t, .int .i64 x.p, .int .i64 x.c, .int .i64 x.b, .int .i64 x.q, .int .i64 x.v, .int .i64 x.u, .bool x.o, .int .i64 x.e, .int .u64 (x.s : Int)] 26)).alloc (.cells #[.int .i64 y.a, .int .u8 (y.k : Int), .int .i64 y.w, .int .i64 y.t, .int .i64 y.p, .int .i64 y.c, .int .i64 y.b, .int .i64 y.q, .int .i64 y.v, .int .i64 y.u, .bool y.o, .int .i64 y.e, .int .u64 (y.s : Int)] 26)) w.heap.size x := (enAt_new w x).alloc _
  have y0 : EnAt ((w.alloc (.cells #[.int .i64 x.a, .int .u8 (x.k : Int), .int .i64 x.w, .int .i64 x.t, .int .i64 x.p, .int .i64 x.c, .int .i64 x.b, .int .i64 x.q, .int .i64 x.v, .int .i64 x.u, .bool x.o, .int .i64 x.e, .int .u64 (x.s : Int)] 26)).alloc (.cells #[.int .i64 y.a, .int .u8 (y.k : Int), .int .i64 y.w, .int .i64 y.t, .int .i64 y.p, .int .i64 y.c, .int .i64 y.b, .int .i64 y.q, .int .i64 y.v, .int .i64 y.u, .bool y.o, .int .i64 y.e, .int .u64 (y.s : Int)] 26)) (w.heap.size + 1) y := by
    have h := enAt_new (w.alloc (.cells #[.int .i64 x.a, .int .u8 (x.k : Int), .int .i64 x.w, .int .i64 x.t, .int .i64 x.p, .int .i64 x.c, .int .i64 x.b, .int .i64 x.q, .int .i64 x.v, .int .i64 x.u, .bool x.o, .int .i64 x.e, .int .u64 (x.s : Int)] 26)) y
    rwa [World.size_alloc] at h
  obtain ⟨W0, hW0⟩ : ∃ W0, W0 = (w.alloc (.cells #[.int .i64 x.a, .int .u8 (x.k : Int), .int .i64 x.w, .int .i64 x.t, .int .i64 x.p, .int .i64 x.c, .int .i64 x.b, .int .i64 x.q, .int .i64 x.v, .int .i64 x.u, .bool x.o, .int .i64 x.e, .int .u64 (x.s : Int)] 26)).alloc (.cells #[.int .i64 y.a, .int .u8 (y.k : Int), .int .i64 y.w, .int .i64 y.t, .int .i64 y.p, .int .i64 y.c, .int .i64 y.b, .int .i64 y.q, .int .i64 y.v, .int .i64 y.u, .bool y.o, .int .i64 y.e, .int .u64 (y.s : Int)] 26) := ⟨_, rfl⟩
  rw [← hW0] at a0 x0 y0
  have l1' := l1 W0 (hv.below a0)
  have c0 : W0.cell? ⟨w.heap.size, 0, none⟩ = some (.int .i64 x.a) := x0.c0
  have c1 : W0.cell? ⟨w.heap.size, 1, none⟩ = some (.int .u8 (x.k : Int)) := x0.c1
  have c2 : W0.cell? ⟨w.heap.size, 2, none⟩ = some (.int .i64 x.w) := x0.c2
  have c3 : W0.cell? ⟨w.heap.size, 3, none⟩ = some (.int .i64 x.t) := x0.c3
  have c4 : W0.cell? ⟨w.heap.size, 4, none⟩ = some (.int .i64 x.p) := x0.c4
  have c5 : W0.cell? ⟨w.heap.size, 5, none⟩ = some (.int .i64 x.c) := x0.c5
  have c6 : W0.cell? ⟨w.heap.size, 6, none⟩ = some (.int .i64 x.b) := x0.c6
  have c7 : W0.cell? ⟨w.heap.size, 7, none⟩ = some (.int .i64 x.q) := x0.c7
  have c8 : W0.cell? ⟨w.heap.size, 8, none⟩ = some (.int .i64 x.v) := x0.c8
  have c9 : W0.cell? ⟨w.heap.size, 9, none⟩ = some (.int .i64 x.u) := x0.c9
  have c10 : W0.cell? ⟨w.heap.size, 10, none⟩ = some (.bool x.o) := x0.c10
  have c11 : W0.cell? ⟨w.heap.size, 11, none⟩ = some (.int .i64 x.e) := x0.c11
  have c12 : W0.cell? ⟨w.heap.size, 12, none⟩ = some (.int .u64 (x.s : Int)) := x0.c12
  rw [hW0] at l1' c0 c1 c2 c3 c4 c5 c6 c7 c8 c9 c10 c11 c12
  go_enter Tryd.func5, Tryd.ntmps5
  go_wp2_with fail
  refine l1'.mono ?_
  rw [← hW0]
  clear hW0 l1' l1 c0 c1 c2 c3 c4 c5 c6 c7 c8 c9 c10 c11 c12
  rintro e w1 ⟨rfl, b1⟩
  have B1 := below_nx a0 b1 (Nat.le_refl _)
  have x1 : EnAt w1 w.heap.size x := x0.of_block (b1.block _ x0.lt)
  have y1 : EnAt w1 (w.heap.size + 1) y := y0.of_block (b1.block _ y0.lt)
  have d0 : w1.cell? ⟨(w.heap.size + 1), 0, none⟩ = some (.int .i64 y.a) := y1.c0
  have d1 : w1.cell? ⟨(w.heap.size + 1), 1, none⟩ = some (.int .u8 (y.k : Int)) := y1.c1
  have d2 : w1.cell? ⟨(w.heap.size + 1), 2, none⟩ = some (.int .i64 y.w) := y1.c2
  have d3 : w1.cell? ⟨(w.heap.size + 1), 3, none⟩ = some (.int .i64 y.t) := y1.c3
  have d4 : w1.cell? ⟨(w.heap.size + 1), 4, none⟩ = some (.int .i64 y.p) := y1.c4
  have d5 : w1.cell? ⟨(w.heap.size + 1), 5, none⟩ = some (.int .i64 y.c) := y1.c5
  have d6 : w1.cell? ⟨(w.heap.size + 1), 6, none⟩ = some (.int .i64 y.b) := y1.c6
  have d7 : w1.cell? ⟨(w.heap.size + 1), 7, none⟩ = some (.int .i64 y.q) := y1.c7
  have d8 : w1.cell? ⟨(w.heap.size + 1), 8, none⟩ = some (.int .i64 y.v) := y1.c8
  have d9 : w1.cell? ⟨(w.heap.size + 1), 9, none⟩ = some (.int .i64 y.u) := y1.c9
  have d10 : w1.cell? ⟨(w.heap.size + 1), 10, none⟩ = some (.bool y.o) := y1.c10
  have d11 : w1.cell? ⟨(w.heap.size + 1), 11, none⟩ = some (.int .i64 y.e) := y1.c11
  have d12 : w1.cell? ⟨(w.heap.size + 1), 12, none⟩ = some (.int .u64 (y.s : Int)) := y1.c12
  have l2' := l2 w1 (hv.below B1)
  clear b1 a0 x0 y0 l2
  go_wp2_with fail
  refine l2'.mono ?_
  rintro e w2 ⟨rfl, b2⟩
  have B2 := below_nx B1 b2 (Nat.le_refl _)
  have x2 : EnAt w2 w.heap.size x := x1.of_block (b2.block _ x1.lt)
  have y2 : EnAt w2 (w.heap.size + 1) y := y1.of_block (b2.block _ y1.lt)
  clear d0 d1 d2 d3 d4 d5 d6 d7 d8 d9 d10 d11 d12 b2 B1 x1 y1 l2'
  have c0 : w2.cell? ⟨w.heap.size, 0, none⟩ = some (.int .i64 x.a) := x2.c0
  have c1 : w2.cell? ⟨w.heap.size, 1, none⟩ = some (.int .u8 (x.k : Int)) := x2.c1
  have c2 : w2.cell? ⟨w.heap.size, 2, none⟩ = some (.int .i64 x.w) := x2.c2
  have c3 : w2.cell? ⟨w.heap.size, 3, none⟩ = some (.int .i64 x.t) := x2.c3
  have c4 : w2.cell? ⟨w.heap.size, 4, none⟩ = some (.int .i64 x.p) := x2.c4
  have c5 : w2.cell? ⟨w.heap.size, 5, none⟩ = some (.int .i64 x.c) := x2.c5
  have c6 : w2.cell? ⟨w.heap.size, 6, none⟩ = some (.int .i64 x.b) := x2.c6
  have c7 : w2.cell? ⟨w.heap.size, 7, none⟩ = some (.int .i64 x.q) := x2.c7
  have c8 : w2.cell? ⟨w.heap.size, 8, none⟩ = some (.int .i64 x.v) := x2.c8
  have c9 : w2.cell? ⟨w.heap.size, 9, none⟩ = some (.int .i64 x.u) := x2.c9
  have c10 : w2.cell? ⟨w.heap.size, 10, none⟩ = some (.bool x.o) := x2.c10
  have c11 : w2.cell? ⟨w.heap.size, 11, none⟩ = some (.int .i64 x.e) := x2.c11
  have c12 : w2.cell? ⟨w.heap.size, 12, none⟩ = some (.int .u64 (x.s : Int)) := x2.c12
  have l3' := l3 (w2.alloc (.cells #[.int .i64 x.a, .int .u8 (x.k : Int), .int .i64 x.w, .int .i64 x.t, .int .i64 x.p, .int .i64 x.c, .int .i64 x.b, .int .i64 x.q, .int .i64 x.v, .int .i64 x.u, .bool x.o, .int .i64 x.e, .int .u64 (x.s : Int)] 26)) _ (EnRow.one w2 x)
  clear l3
  go_wp2_with fail
  refine l3'.mono ?_
  rintro e w3 ⟨rfl, b3⟩
  have B3 := below_nx (B2.alloc B2.size _) b3 (Nat.le_refl _)
  have x3 : EnAt w3 w.heap.size x := (x2.alloc _).of_block (b3.block _ (x2.alloc _).lt)
  have y3 : EnAt w3 (w.heap.size + 1) y := (y2.alloc _).of_block (b3.block _ (y2.alloc _).lt)
  clear c0 c1 c2 c3 c4 c5 c6 c7 c8 c9 c10 c11 c12 x2 y2 b3 B2 l3'
  have d0 : w3.cell? ⟨(w.heap.size + 1), 0, none⟩ = some (.int .i64 y.a) := y3.c0
  have d1 : w3.cell? ⟨(w.heap.size + 1), 1, none⟩ = some (.int .u8 (y.k : Int)) := y3.c1
  have d2 : w3.cell? ⟨(w.heap.size + 1), 2, none⟩ = some (.int .i64 y.w) := y3.c2
  have d3 : w3.cell? ⟨(w.heap.size + 1), 3, none⟩ = some (.int .i64 y.t) := y3.c3
  have d4 : w3.cell? ⟨(w.heap.size + 1), 4, none⟩ = some (.int .i64 y.p) := y3.c4
  have d5 : w3.cell? ⟨(w.heap.size + 1), 5, none⟩ = some (.int .i64 y.c) := y3.c5
  have d6 : w3.cell? ⟨(w.heap.size + 1), 6, none⟩ = some (.int .i64 y.b) := y3.c6
  have d7 : w3.cell? ⟨(w.heap.size + 1), 7, none⟩ = some (.int .i64 y.q) := y3.c7
  have d8 : w3.cell? ⟨(w.heap.size + 1), 8, none⟩ = some (.int .i64 y.v) := y3.c8
  have d9 : w3.cell? ⟨(w.heap.size + 1), 9, none⟩ = some (.int .i64 y.u) := y3.c9
  have d10 : w3.cell? ⟨(w.heap.size + 1), 10, none⟩ = some (.bool y.o) := y3.c10
  have d11 : w3.cell? ⟨(w.heap.size + 1), 11, none⟩ = some (.int .i64 y.e) := y3.c11
  have d12 : w3.cell? ⟨(w.heap.size + 1), 12, none⟩ = some (.int .u64 (y.s : Int)) := y3.c12
  have l4' := l4 (w3.alloc (.cells #[.int .i64 y.a, .int .u8 (y.k : Int), .int .i64 y.w, .int .i64 y.t, .int .i64 y.p, .int .i64 y.c, .int .i64 y.b, .int .i64 y.q, .int .i64 y.v, .int .i64 y.u, .bool y.o, .int .i64 y.e, .int .u64 (y.s : Int)] 26)) _ (EnRow.one w3 y)
  clear l4
  go_wp2_with fail
  refine l4'.mono ?_
  rintro e w4 ⟨rfl, b4⟩
  have B4 := below_nx (B3.alloc B3.size _) b4 (Nat.le_refl _)
  have x4 : EnAt w4 w.heap.size x := (x3.alloc _).of_block (b4.block _ (x3.alloc _).lt)
  have y4 : EnAt w4 (w.heap.size + 1) y := (y3.alloc _).of_block (b4.block _ (y3.alloc _).lt)
  clear d0 d1 d2 d3 d4 d5 d6 d7 d8 d9 d10 d11 d12 x3 y3 b4 B3 l4'
  have c0 : w4.cell? ⟨w.heap.size, 0, none⟩ = some (.int .i64 x.a) := x4.c0
  have c1 : w4.cell? ⟨w.heap.size, 1, none⟩ = some (.int .u8 (x.k : Int)) := x4.c1
  have c2 : w4.cell? ⟨w.heap.size, 2, none⟩ = some (.int .i64 x.w) := x4.c2
  have c3 : w4.cell? ⟨w.heap.size, 3, none⟩ = some (.int .i64 x.t) := x4.c3
  have c4 : w4.cell? ⟨w.heap.size, 4, none⟩ = some (.int .i64 x.p) := x4.c4
  have c5 : w4.cell? ⟨w.heap.size, 5, none⟩ = some (.int .i64 x.c) := x4.c5
  have c6 : w4.cell? ⟨w.heap.size, 6, none⟩ = some (.int .i64 x.b) := x4.c6
  have c7 : w4.cell? ⟨w.heap.size, 7, none⟩ = some (.int .i64 x.q) := x4.c7
  have c8 : w4.cell? ⟨w.heap.size, 8, none⟩ = some (.int .i64 x.v) := x4.c8
  have c9 : w4.cell? ⟨w.heap.size, 9, none⟩ = some (.int .i64 x.u) := x4.c9
  have c10 : w4.cell? ⟨w.heap.size, 10, none⟩ = some (.bool x.o) := x4.c10
  have c11 : w4.cell? ⟨w.heap.size, 11, none⟩ = some (.int .i64 x.e) := x4.c11
  have c12 : w4.cell? ⟨w.heap.size, 12, none⟩ = some (.int .u64 (x.s : Int)) := x4.c12
  have l5' := l5 w4
  clear l5
  go_wp2_with fail
  refine l5'.mono ?_
  rintro e w5 ⟨rfl, b5⟩
  have B5 := below_nx B4 b5 (Nat.le_refl _)
  have x5 : EnAt w5 w.heap.size x := x4.of_block (b5.block _ x4.lt)
  have y5 : EnAt w5 (w.heap.size + 1) y := y4.of_block (b5.block _ y4.lt)
  clear c0 c1 c2 c3 c4 c5 c6 c7 c8 c9 c10 c11 c12 x4 y4 b5 B4 l5'
  have l6 := ealive_any w5 (hv.below B5)
  go_wp2_with fail
  refine l6.mono ?_
  rintro e w6 ⟨rfl, b6⟩
  have B6 := below_nx B5 b6 (Nat.le_refl _)
  go_wp2_with fail
  go_ret
  exact ⟨rfl, B6⟩
set_option maxRecDepth 100000 in
set_option maxHeartbeats 6400000 in
theorem eapart_no_yes (x y : En) (hx : x.ok) (hy : y.ok) (mx : okB x = false) (my : okB y = true) (w : World) (hv : Vars w) :
    Calls Tryd.prog 5 #[x.val, y.val] w fun e w' => e = .returned (.bool true) ∧ Below w.heap.size w w' := by
  change Calls Tryd.prog 5 #[.agg #[.int .i64 x.a, .int .u8 (x.k : Int), .int .i64 x.w, .int .i64 x.t, .int .i64 x.p, .int .i64 x.c, .int .i64 x.b, .int .i64 x.q, .int .i64 x.v, .int .i64 x.u, .bool x.o, .int .i64 x.e, .int .u64 (x.s : Int)], .agg #[.int .i64 y.a, .int .u8 (y.k : Int), .int .i64 y.w, .int .i64 y.t, .int .i64 y.p, .int .i64 y.c, .int .i64 y.b, .int .i64 y.q, .int .i64 y.v, .int .i64 y.u, .bool y.o, .int .i64 y.e, .int .u64 (y.s : Int)]] w _
  obtain ⟨A, hA⟩ : ∃ A, A = lineV x := ⟨_, rfl⟩
  obtain ⟨B, hB⟩ : ∃ B, B = lineV y := ⟨_, rfl⟩
  obtain ⟨S, hS⟩ : ∃ S, S = putS [x] := ⟨_, rfl⟩
  obtain ⟨T, hT⟩ : ∃ T, T = putS [y] := ⟨_, rfl⟩
  have zx : checkE x = 2 := by unfold checkE; rw [mx]; rfl
  have zy : checkE y = 0 := by unfold checkE; rw [my]; rfl
  have l1 : ∀ W, Vars W → Calls Tryd.prog 7 #[.agg #[.int .i64 x.a, .int .u8 (x.k : Int), .int .i64 x.w, .int .i64 x.t, .int .i64 x.p, .int .i64 x.c, .int .i64 x.b, .int .i64 x.q, .int .i64 x.v, .int .i64 x.u, .bool x.o, .int .i64 x.e, .int .u64 (x.s : Int)]] W fun e w' => e = .returned (.tuple #[.string ⟨A.toArray⟩, .int .i64 2]) ∧ Below W.heap.size W w' := fun W hW => by
    have h := eline_any x hx W hW
    rw [zx, ← hA] at h
    exact h
  have l2 : ∀ W, Vars W → Calls Tryd.prog 7 #[.agg #[.int .i64 y.a, .int .u8 (y.k : Int), .int .i64 y.w, .int .i64 y.t, .int .i64 y.p, .int .i64 y.c, .int .i64 y.b, .int .i64 y.q, .int .i64 y.v, .int .i64 y.u, .bool y.o, .int .i64 y.e, .int .u64 (y.s : Int)]] W fun e w' => e = .returned (.tuple #[.string ⟨B.toArray⟩, .int .i64 0]) ∧ Below W.heap.size W w' := fun W hW => by
    have h := eline_any y hy W hW
    rw [zy, ← hB] at h
    exact h
  have l3 : ∀ W v, EnRow W v [x] → Calls Tryd.prog 9 #[v] W fun e w' => e = .returned (.tuple #[.string ⟨S.toArray⟩, .int .i64 2]) ∧ Below W.heap.size W w' := fun W v hr => by
    have h := eputs_any v [x] W hr (by intro z hz; obtain rfl := List.mem_singleton.1 hz; exact hx) (by simp)
    rw [putE_one, zx, ← hS] at h
    exact h
  have l4 : ∀ W v, EnRow W v [y] → Calls Tryd.prog 9 #[v] W fun e w' => e = .returned (.tuple #[.string ⟨T.toArray⟩, .int .i64 0]) ∧ Below W.heap.size W w' := fun W v hr => by
    have h := eputs_any v [y] W hr (by intro z hz; obtain rfl := List.mem_singleton.1 hz; exact hy) (by simp)
    rw [putE_one, zy, ← hT] at h
    exact h
  have l5 : ∀ W, Calls Tryd.prog 13 #[.agg #[.int .i64 x.a, .int .u8 (x.k : Int), .int .i64 x.w, .int .i64 x.t, .int .i64 x.p, .int .i64 x.c, .int .i64 x.b, .int .i64 x.q, .int .i64 x.v, .int .i64 x.u, .bool x.o, .int .i64 x.e, .int .u64 (x.s : Int)]] W fun e w' => e = .returned (.int .i64 2) ∧ Below W.heap.size W w' := fun W => by
    have h := check_any x hx W
    rw [zx] at h
    exact h
  clear hA hB hS hT zx zy mx my hx hy
  have a0 : Below w.heap.size w ((w.alloc (.cells #[.int .i64 x.a, .int .u8 (x.k : Int), .int .i64 x.w, .int .i64 x.t, .int .i64 x.p, .int .i64 x.c, .int .i64 x.b, .int .i64 x.q, .int .i64 x.v, .int .i64 x.u, .bool x.o, .int .i64 x.e, .int .u64 (x.s : Int)] 26)).alloc (.cells #[.int .i64 y.a, .int .u8 (y.k : Int), .int .i64 y.w, .int .i64 y.t, .int .i64 y.p, .int .i64 y.c, .int .i64 y.b, .int .i64 y.q, .int .i64 y.v, .int .i64 y.u, .bool y.o, .int .i64 y.e, .int .u64 (y.s : Int)] 26)) := below2 w _ _
  have x0 : EnAt ((w.alloc (.cells #[.int .i64 x.a, .int .u8 (x.k : Int), .int .i64 x.w, .int .i64 x.t, .int .i64 x.p, .int .i64 x.c, .int .i64 x.b, .int .i64 x.q, .int .i64 x.v, .int .i64 x.u, .bool x.o, .int .i64 x.e, .int .u64 (x.s : Int)] 26)).alloc (.cells #[.int .i64 y.a, .int .u8 (y.k : Int), .int .i64 y.w, .int .i64 y.t, .int .i64 y.p, .int .i64 y.c, .int .i64 y.b, .int .i64 y.q, .int .i64 y.v, .int .i64 y.u, .bool y.o, .int .i64 y.e, .int .u64 (y.s : Int)] 26)) w.heap.size x := (enAt_new w x).alloc _
  have y0 : EnAt ((w.alloc (.cells #[.int .i64 x.a, .int .u8 (x.k : Int), .int .i64 x.w, .int .i64 x.t, .int .i64 x.p, .int .i64 x.c, .int .i64 x.b, .int .i64 x.q, .int .i64 x.v, .int .i64 x.u, .bool x.o, .int .i64 x.e, .int .u64 (x.s : Int)] 26)).alloc (.cells #[.int .i64 y.a, .int .u8 (y.k : Int), .int .i64 y.w, .int .i64 y.t, .int .i64 y.p, .int .i64 y.c, .int .i64 y.b, .int .i64 y.q, .int .i64 y.v, .int .i64 y.u, .bool y.o, .int .i64 y.e, .int .u64 (y.s : Int)] 26)) (w.heap.size + 1) y := by
    have h := enAt_new (w.alloc (.cells #[.int .i64 x.a, .int .u8 (x.k : Int), .int .i64 x.w, .int .i64 x.t, .int .i64 x.p, .int .i64 x.c, .int .i64 x.b, .int .i64 x.q, .int .i64 x.v, .int .i64 x.u, .bool x.o, .int .i64 x.e, .int .u64 (x.s : Int)] 26)) y
    rwa [World.size_alloc] at h
  obtain ⟨W0, hW0⟩ : ∃ W0, W0 = (w.alloc (.cells #[.int .i64 x.a, .int .u8 (x.k : Int), .int .i64 x.w, .int .i64 x.t, .int .i64 x.p, .int .i64 x.c, .int .i64 x.b, .int .i64 x.q, .int .i64 x.v, .int .i64 x.u, .bool x.o, .int .i64 x.e, .int .u64 (x.s : Int)] 26)).alloc (.cells #[.int .i64 y.a, .int .u8 (y.k : Int), .int .i64 y.w, .int .i64 y.t, .int .i64 y.p, .int .i64 y.c, .int .i64 y.b, .int .i64 y.q, .int .i64 y.v, .int .i64 y.u, .bool y.o, .int .i64 y.e, .int .u64 (y.s : Int)] 26) := ⟨_, rfl⟩
  rw [← hW0] at a0 x0 y0
  have l1' := l1 W0 (hv.below a0)
  have c0 : W0.cell? ⟨w.heap.size, 0, none⟩ = some (.int .i64 x.a) := x0.c0
  have c1 : W0.cell? ⟨w.heap.size, 1, none⟩ = some (.int .u8 (x.k : Int)) := x0.c1
  have c2 : W0.cell? ⟨w.heap.size, 2, none⟩ = some (.int .i64 x.w) := x0.c2
  have c3 : W0.cell? ⟨w.heap.size, 3, none⟩ = some (.int .i64 x.t) := x0.c3
  have c4 : W0.cell? ⟨w.heap.size, 4, none⟩ = some (.int .i64 x.p) := x0.c4
  have c5 : W0.cell? ⟨w.heap.size, 5, none⟩ = some (.int .i64 x.c) := x0.c5
  have c6 : W0.cell? ⟨w.heap.size, 6, none⟩ = some (.int .i64 x.b) := x0.c6
  have c7 : W0.cell? ⟨w.heap.size, 7, none⟩ = some (.int .i64 x.q) := x0.c7
  have c8 : W0.cell? ⟨w.heap.size, 8, none⟩ = some (.int .i64 x.v) := x0.c8
  have c9 : W0.cell? ⟨w.heap.size, 9, none⟩ = some (.int .i64 x.u) := x0.c9
  have c10 : W0.cell? ⟨w.heap.size, 10, none⟩ = some (.bool x.o) := x0.c10
  have c11 : W0.cell? ⟨w.heap.size, 11, none⟩ = some (.int .i64 x.e) := x0.c11
  have c12 : W0.cell? ⟨w.heap.size, 12, none⟩ = some (.int .u64 (x.s : Int)) := x0.c12
  rw [hW0] at l1' c0 c1 c2 c3 c4 c5 c6 c7 c8 c9 c10 c11 c12
  go_enter Tryd.func5, Tryd.ntmps5
  go_wp2_with fail
  refine l1'.mono ?_
  rw [← hW0]
  clear hW0 l1' l1 c0 c1 c2 c3 c4 c5 c6 c7 c8 c9 c10 c11 c12
  rintro e w1 ⟨rfl, b1⟩
  have B1 := below_nx a0 b1 (Nat.le_refl _)
  have x1 : EnAt w1 w.heap.size x := x0.of_block (b1.block _ x0.lt)
  have y1 : EnAt w1 (w.heap.size + 1) y := y0.of_block (b1.block _ y0.lt)
  have d0 : w1.cell? ⟨(w.heap.size + 1), 0, none⟩ = some (.int .i64 y.a) := y1.c0
  have d1 : w1.cell? ⟨(w.heap.size + 1), 1, none⟩ = some (.int .u8 (y.k : Int)) := y1.c1
  have d2 : w1.cell? ⟨(w.heap.size + 1), 2, none⟩ = some (.int .i64 y.w) := y1.c2
  have d3 : w1.cell? ⟨(w.heap.size + 1), 3, none⟩ = some (.int .i64 y.t) := y1.c3
  have d4 : w1.cell? ⟨(w.heap.size + 1), 4, none⟩ = some (.int .i64 y.p) := y1.c4
  have d5 : w1.cell? ⟨(w.heap.size + 1), 5, none⟩ = some (.int .i64 y.c) := y1.c5
  have d6 : w1.cell? ⟨(w.heap.size + 1), 6, none⟩ = some (.int .i64 y.b) := y1.c6
  have d7 : w1.cell? ⟨(w.heap.size + 1), 7, none⟩ = some (.int .i64 y.q) := y1.c7
  have d8 : w1.cell? ⟨(w.heap.size + 1), 8, none⟩ = some (.int .i64 y.v) := y1.c8
  have d9 : w1.cell? ⟨(w.heap.size + 1), 9, none⟩ = some (.int .i64 y.u) := y1.c9
  have d10 : w1.cell? ⟨(w.heap.size + 1), 10, none⟩ = some (.bool y.o) := y1.c10
  have d11 : w1.cell? ⟨(w.heap.size + 1), 11, none⟩ = some (.int .i64 y.e) := y1.c11
  have d12 : w1.cell? ⟨(w.heap.size + 1), 12, none⟩ = some (.int .u64 (y.s : Int)) := y1.c12
  have l2' := l2 w1 (hv.below B1)
  clear b1 a0 x0 y0 l2
  go_wp2_with fail
  refine l2'.mono ?_
  rintro e w2 ⟨rfl, b2⟩
  have B2 := below_nx B1 b2 (Nat.le_refl _)
  have x2 : EnAt w2 w.heap.size x := x1.of_block (b2.block _ x1.lt)
  have y2 : EnAt w2 (w.heap.size + 1) y := y1.of_block (b2.block _ y1.lt)
  clear d0 d1 d2 d3 d4 d5 d6 d7 d8 d9 d10 d11 d12 b2 B1 x1 y1 l2'
  have c0 : w2.cell? ⟨w.heap.size, 0, none⟩ = some (.int .i64 x.a) := x2.c0
  have c1 : w2.cell? ⟨w.heap.size, 1, none⟩ = some (.int .u8 (x.k : Int)) := x2.c1
  have c2 : w2.cell? ⟨w.heap.size, 2, none⟩ = some (.int .i64 x.w) := x2.c2
  have c3 : w2.cell? ⟨w.heap.size, 3, none⟩ = some (.int .i64 x.t) := x2.c3
  have c4 : w2.cell? ⟨w.heap.size, 4, none⟩ = some (.int .i64 x.p) := x2.c4
  have c5 : w2.cell? ⟨w.heap.size, 5, none⟩ = some (.int .i64 x.c) := x2.c5
  have c6 : w2.cell? ⟨w.heap.size, 6, none⟩ = some (.int .i64 x.b) := x2.c6
  have c7 : w2.cell? ⟨w.heap.size, 7, none⟩ = some (.int .i64 x.q) := x2.c7
  have c8 : w2.cell? ⟨w.heap.size, 8, none⟩ = some (.int .i64 x.v) := x2.c8
  have c9 : w2.cell? ⟨w.heap.size, 9, none⟩ = some (.int .i64 x.u) := x2.c9
  have c10 : w2.cell? ⟨w.heap.size, 10, none⟩ = some (.bool x.o) := x2.c10
  have c11 : w2.cell? ⟨w.heap.size, 11, none⟩ = some (.int .i64 x.e) := x2.c11
  have c12 : w2.cell? ⟨w.heap.size, 12, none⟩ = some (.int .u64 (x.s : Int)) := x2.c12
  have l3' := l3 (w2.alloc (.cells #[.int .i64 x.a, .int .u8 (x.k : Int), .int .i64 x.w, .int .i64 x.t, .int .i64 x.p, .int .i64 x.c, .int .i64 x.b, .int .i64 x.q, .int .i64 x.v, .int .i64 x.u, .bool x.o, .int .i64 x.e, .int .u64 (x.s : Int)] 26)) _ (EnRow.one w2 x)
  clear l3
  go_wp2_with fail
  refine l3'.mono ?_
  rintro e w3 ⟨rfl, b3⟩
  have B3 := below_nx (B2.alloc B2.size _) b3 (Nat.le_refl _)
  have x3 : EnAt w3 w.heap.size x := (x2.alloc _).of_block (b3.block _ (x2.alloc _).lt)
  have y3 : EnAt w3 (w.heap.size + 1) y := (y2.alloc _).of_block (b3.block _ (y2.alloc _).lt)
  clear c0 c1 c2 c3 c4 c5 c6 c7 c8 c9 c10 c11 c12 x2 y2 b3 B2 l3'
  have d0 : w3.cell? ⟨(w.heap.size + 1), 0, none⟩ = some (.int .i64 y.a) := y3.c0
  have d1 : w3.cell? ⟨(w.heap.size + 1), 1, none⟩ = some (.int .u8 (y.k : Int)) := y3.c1
  have d2 : w3.cell? ⟨(w.heap.size + 1), 2, none⟩ = some (.int .i64 y.w) := y3.c2
  have d3 : w3.cell? ⟨(w.heap.size + 1), 3, none⟩ = some (.int .i64 y.t) := y3.c3
  have d4 : w3.cell? ⟨(w.heap.size + 1), 4, none⟩ = some (.int .i64 y.p) := y3.c4
  have d5 : w3.cell? ⟨(w.heap.size + 1), 5, none⟩ = some (.int .i64 y.c) := y3.c5
  have d6 : w3.cell? ⟨(w.heap.size + 1), 6, none⟩ = some (.int .i64 y.b) := y3.c6
  have d7 : w3.cell? ⟨(w.heap.size + 1), 7, none⟩ = some (.int .i64 y.q) := y3.c7
  have d8 : w3.cell? ⟨(w.heap.size + 1), 8, none⟩ = some (.int .i64 y.v) := y3.c8
  have d9 : w3.cell? ⟨(w.heap.size + 1), 9, none⟩ = some (.int .i64 y.u) := y3.c9
  have d10 : w3.cell? ⟨(w.heap.size + 1), 10, none⟩ = some (.bool y.o) := y3.c10
  have d11 : w3.cell? ⟨(w.heap.size + 1), 11, none⟩ = some (.int .i64 y.e) := y3.c11
  have d12 : w3.cell? ⟨(w.heap.size + 1), 12, none⟩ = some (.int .u64 (y.s : Int)) := y3.c12
  have l4' := l4 (w3.alloc (.cells #[.int .i64 y.a, .int .u8 (y.k : Int), .int .i64 y.w, .int .i64 y.t, .int .i64 y.p, .int .i64 y.c, .int .i64 y.b, .int .i64 y.q, .int .i64 y.v, .int .i64 y.u, .bool y.o, .int .i64 y.e, .int .u64 (y.s : Int)] 26)) _ (EnRow.one w3 y)
  clear l4
  go_wp2_with fail
  refine l4'.mono ?_
  rintro e w4 ⟨rfl, b4⟩
  have B4 := below_nx (B3.alloc B3.size _) b4 (Nat.le_refl _)
  have x4 : EnAt w4 w.heap.size x := (x3.alloc _).of_block (b4.block _ (x3.alloc _).lt)
  have y4 : EnAt w4 (w.heap.size + 1) y := (y3.alloc _).of_block (b4.block _ (y3.alloc _).lt)
  clear d0 d1 d2 d3 d4 d5 d6 d7 d8 d9 d10 d11 d12 x3 y3 b4 B3 l4'
  have c0 : w4.cell? ⟨w.heap.size, 0, none⟩ = some (.int .i64 x.a) := x4.c0
  have c1 : w4.cell? ⟨w.heap.size, 1, none⟩ = some (.int .u8 (x.k : Int)) := x4.c1
  have c2 : w4.cell? ⟨w.heap.size, 2, none⟩ = some (.int .i64 x.w) := x4.c2
  have c3 : w4.cell? ⟨w.heap.size, 3, none⟩ = some (.int .i64 x.t) := x4.c3
  have c4 : w4.cell? ⟨w.heap.size, 4, none⟩ = some (.int .i64 x.p) := x4.c4
  have c5 : w4.cell? ⟨w.heap.size, 5, none⟩ = some (.int .i64 x.c) := x4.c5
  have c6 : w4.cell? ⟨w.heap.size, 6, none⟩ = some (.int .i64 x.b) := x4.c6
  have c7 : w4.cell? ⟨w.heap.size, 7, none⟩ = some (.int .i64 x.q) := x4.c7
  have c8 : w4.cell? ⟨w.heap.size, 8, none⟩ = some (.int .i64 x.v) := x4.c8
  have c9 : w4.cell? ⟨w.heap.size, 9, none⟩ = some (.int .i64 x.u) := x4.c9
  have c10 : w4.cell? ⟨w.heap.size, 10, none⟩ = some (.bool x.o) := x4.c10
  have c11 : w4.cell? ⟨w.heap.size, 11, none⟩ = some (.int .i64 x.e) := x4.c11
  have c12 : w4.cell? ⟨w.heap.size, 12, none⟩ = some (.int .u64 (x.s : Int)) := x4.c12
  have l5' := l5 w4
  clear l5
  go_wp2_with fail
  refine l5'.mono ?_
  rintro e w5 ⟨rfl, b5⟩
  have B5 := below_nx B4 b5 (Nat.le_refl _)
  have x5 : EnAt w5 w.heap.size x := x4.of_block (b5.block _ x4.lt)
  have y5 : EnAt w5 (w.heap.size + 1) y := y4.of_block (b5.block _ y4.lt)
  clear c0 c1 c2 c3 c4 c5 c6 c7 c8 c9 c10 c11 c12 x4 y4 b5 B4 l5'
  have l6 := ealive_any w5 (hv.below B5)
  go_wp2_with fail
  refine l6.mono ?_
  rintro e w6 ⟨rfl, b6⟩
  have B6 := below_nx B5 b6 (Nat.le_refl _)
  go_wp2_with fail
  go_ret
  exact ⟨rfl, B6⟩
set_option maxRecDepth 100000 in
set_option maxHeartbeats 6400000 in
theorem eapart_same (x y : En) (hx : x.ok) (hy : y.ok) (mx : okB x = true) (my : okB y = true) (hxy : x = y) (w : World) (hv : Vars w) :
    Calls Tryd.prog 5 #[x.val, y.val] w fun e w' => e = .returned (.bool true) ∧ Below w.heap.size w w' := by
  change Calls Tryd.prog 5 #[.agg #[.int .i64 x.a, .int .u8 (x.k : Int), .int .i64 x.w, .int .i64 x.t, .int .i64 x.p, .int .i64 x.c, .int .i64 x.b, .int .i64 x.q, .int .i64 x.v, .int .i64 x.u, .bool x.o, .int .i64 x.e, .int .u64 (x.s : Int)], .agg #[.int .i64 y.a, .int .u8 (y.k : Int), .int .i64 y.w, .int .i64 y.t, .int .i64 y.p, .int .i64 y.c, .int .i64 y.b, .int .i64 y.q, .int .i64 y.v, .int .i64 y.u, .bool y.o, .int .i64 y.e, .int .u64 (y.s : Int)]] w _
  obtain ⟨A, hA⟩ : ∃ A, A = lineV x := ⟨_, rfl⟩
  obtain ⟨B, hB⟩ : ∃ B, B = lineV y := ⟨_, rfl⟩
  obtain ⟨S, hS⟩ : ∃ S, S = putS [x] := ⟨_, rfl⟩
  obtain ⟨T, hT⟩ : ∃ T, T = putS [y] := ⟨_, rfl⟩
  have zx : checkE x = 0 := by unfold checkE; rw [mx]; rfl
  have zy : checkE y = 0 := by unfold checkE; rw [my]; rfl
  have l1 : ∀ W, Vars W → Calls Tryd.prog 7 #[.agg #[.int .i64 x.a, .int .u8 (x.k : Int), .int .i64 x.w, .int .i64 x.t, .int .i64 x.p, .int .i64 x.c, .int .i64 x.b, .int .i64 x.q, .int .i64 x.v, .int .i64 x.u, .bool x.o, .int .i64 x.e, .int .u64 (x.s : Int)]] W fun e w' => e = .returned (.tuple #[.string ⟨A.toArray⟩, .int .i64 0]) ∧ Below W.heap.size W w' := fun W hW => by
    have h := eline_any x hx W hW
    rw [zx, ← hA] at h
    exact h
  have l2 : ∀ W, Vars W → Calls Tryd.prog 7 #[.agg #[.int .i64 y.a, .int .u8 (y.k : Int), .int .i64 y.w, .int .i64 y.t, .int .i64 y.p, .int .i64 y.c, .int .i64 y.b, .int .i64 y.q, .int .i64 y.v, .int .i64 y.u, .bool y.o, .int .i64 y.e, .int .u64 (y.s : Int)]] W fun e w' => e = .returned (.tuple #[.string ⟨B.toArray⟩, .int .i64 0]) ∧ Below W.heap.size W w' := fun W hW => by
    have h := eline_any y hy W hW
    rw [zy, ← hB] at h
    exact h
  have l3 : ∀ W v, EnRow W v [x] → Calls Tryd.prog 9 #[v] W fun e w' => e = .returned (.tuple #[.string ⟨S.toArray⟩, .int .i64 0]) ∧ Below W.heap.size W w' := fun W v hr => by
    have h := eputs_any v [x] W hr (by intro z hz; obtain rfl := List.mem_singleton.1 hz; exact hx) (by simp)
    rw [putE_one, zx, ← hS] at h
    exact h
  have l4 : ∀ W v, EnRow W v [y] → Calls Tryd.prog 9 #[v] W fun e w' => e = .returned (.tuple #[.string ⟨T.toArray⟩, .int .i64 0]) ∧ Below W.heap.size W w' := fun W v hr => by
    have h := eputs_any v [y] W hr (by intro z hz; obtain rfl := List.mem_singleton.1 hz; exact hy) (by simp)
    rw [putE_one, zy, ← hT] at h
    exact h
  have l5 : ∀ W, Calls Tryd.prog 13 #[.agg #[.int .i64 x.a, .int .u8 (x.k : Int), .int .i64 x.w, .int .i64 x.t, .int .i64 x.p, .int .i64 x.c, .int .i64 x.b, .int .i64 x.q, .int .i64 x.v, .int .i64 x.u, .bool x.o, .int .i64 x.e, .int .u64 (x.s : Int)]] W fun e w' => e = .returned (.int .i64 0) ∧ Below W.heap.size W w' := fun W => by
    have h := check_any x hx W
    rw [zx] at h
    exact h
  have zS : S.length ≤ 100 := by rw [hS, putS_one mx]; exact enL_len hx mx
  have zT : T.length ≤ 100 := by rw [hT, putS_one my]; exact enL_len hy my
  obtain rfl : A = B := by rw [hA, hB, hxy]
  obtain rfl : S = T := by rw [hS, hT, hxy]
  have hq : En.eq x y = true := by rw [hxy]; exact En.eq_refl y
  clear hA hB hS hT zx zy mx my hx hy hxy
  have a0 : Below w.heap.size w ((w.alloc (.cells #[.int .i64 x.a, .int .u8 (x.k : Int), .int .i64 x.w, .int .i64 x.t, .int .i64 x.p, .int .i64 x.c, .int .i64 x.b, .int .i64 x.q, .int .i64 x.v, .int .i64 x.u, .bool x.o, .int .i64 x.e, .int .u64 (x.s : Int)] 26)).alloc (.cells #[.int .i64 y.a, .int .u8 (y.k : Int), .int .i64 y.w, .int .i64 y.t, .int .i64 y.p, .int .i64 y.c, .int .i64 y.b, .int .i64 y.q, .int .i64 y.v, .int .i64 y.u, .bool y.o, .int .i64 y.e, .int .u64 (y.s : Int)] 26)) := below2 w _ _
  have x0 : EnAt ((w.alloc (.cells #[.int .i64 x.a, .int .u8 (x.k : Int), .int .i64 x.w, .int .i64 x.t, .int .i64 x.p, .int .i64 x.c, .int .i64 x.b, .int .i64 x.q, .int .i64 x.v, .int .i64 x.u, .bool x.o, .int .i64 x.e, .int .u64 (x.s : Int)] 26)).alloc (.cells #[.int .i64 y.a, .int .u8 (y.k : Int), .int .i64 y.w, .int .i64 y.t, .int .i64 y.p, .int .i64 y.c, .int .i64 y.b, .int .i64 y.q, .int .i64 y.v, .int .i64 y.u, .bool y.o, .int .i64 y.e, .int .u64 (y.s : Int)] 26)) w.heap.size x := (enAt_new w x).alloc _
  have y0 : EnAt ((w.alloc (.cells #[.int .i64 x.a, .int .u8 (x.k : Int), .int .i64 x.w, .int .i64 x.t, .int .i64 x.p, .int .i64 x.c, .int .i64 x.b, .int .i64 x.q, .int .i64 x.v, .int .i64 x.u, .bool x.o, .int .i64 x.e, .int .u64 (x.s : Int)] 26)).alloc (.cells #[.int .i64 y.a, .int .u8 (y.k : Int), .int .i64 y.w, .int .i64 y.t, .int .i64 y.p, .int .i64 y.c, .int .i64 y.b, .int .i64 y.q, .int .i64 y.v, .int .i64 y.u, .bool y.o, .int .i64 y.e, .int .u64 (y.s : Int)] 26)) (w.heap.size + 1) y := by
    have h := enAt_new (w.alloc (.cells #[.int .i64 x.a, .int .u8 (x.k : Int), .int .i64 x.w, .int .i64 x.t, .int .i64 x.p, .int .i64 x.c, .int .i64 x.b, .int .i64 x.q, .int .i64 x.v, .int .i64 x.u, .bool x.o, .int .i64 x.e, .int .u64 (x.s : Int)] 26)) y
    rwa [World.size_alloc] at h
  obtain ⟨W0, hW0⟩ : ∃ W0, W0 = (w.alloc (.cells #[.int .i64 x.a, .int .u8 (x.k : Int), .int .i64 x.w, .int .i64 x.t, .int .i64 x.p, .int .i64 x.c, .int .i64 x.b, .int .i64 x.q, .int .i64 x.v, .int .i64 x.u, .bool x.o, .int .i64 x.e, .int .u64 (x.s : Int)] 26)).alloc (.cells #[.int .i64 y.a, .int .u8 (y.k : Int), .int .i64 y.w, .int .i64 y.t, .int .i64 y.p, .int .i64 y.c, .int .i64 y.b, .int .i64 y.q, .int .i64 y.v, .int .i64 y.u, .bool y.o, .int .i64 y.e, .int .u64 (y.s : Int)] 26) := ⟨_, rfl⟩
  rw [← hW0] at a0 x0 y0
  have l1' := l1 W0 (hv.below a0)
  have c0 : W0.cell? ⟨w.heap.size, 0, none⟩ = some (.int .i64 x.a) := x0.c0
  have c1 : W0.cell? ⟨w.heap.size, 1, none⟩ = some (.int .u8 (x.k : Int)) := x0.c1
  have c2 : W0.cell? ⟨w.heap.size, 2, none⟩ = some (.int .i64 x.w) := x0.c2
  have c3 : W0.cell? ⟨w.heap.size, 3, none⟩ = some (.int .i64 x.t) := x0.c3
  have c4 : W0.cell? ⟨w.heap.size, 4, none⟩ = some (.int .i64 x.p) := x0.c4
  have c5 : W0.cell? ⟨w.heap.size, 5, none⟩ = some (.int .i64 x.c) := x0.c5
  have c6 : W0.cell? ⟨w.heap.size, 6, none⟩ = some (.int .i64 x.b) := x0.c6
  have c7 : W0.cell? ⟨w.heap.size, 7, none⟩ = some (.int .i64 x.q) := x0.c7
  have c8 : W0.cell? ⟨w.heap.size, 8, none⟩ = some (.int .i64 x.v) := x0.c8
  have c9 : W0.cell? ⟨w.heap.size, 9, none⟩ = some (.int .i64 x.u) := x0.c9
  have c10 : W0.cell? ⟨w.heap.size, 10, none⟩ = some (.bool x.o) := x0.c10
  have c11 : W0.cell? ⟨w.heap.size, 11, none⟩ = some (.int .i64 x.e) := x0.c11
  have c12 : W0.cell? ⟨w.heap.size, 12, none⟩ = some (.int .u64 (x.s : Int)) := x0.c12
  rw [hW0] at l1' c0 c1 c2 c3 c4 c5 c6 c7 c8 c9 c10 c11 c12
  go_enter Tryd.func5, Tryd.ntmps5
  go_wp2_with fail
  refine l1'.mono ?_
  rw [← hW0]
  clear hW0 l1' l1 c0 c1 c2 c3 c4 c5 c6 c7 c8 c9 c10 c11 c12
  rintro e w1 ⟨rfl, b1⟩
  have B1 := below_nx a0 b1 (Nat.le_refl _)
  have x1 : EnAt w1 w.heap.size x := x0.of_block (b1.block _ x0.lt)
  have y1 : EnAt w1 (w.heap.size + 1) y := y0.of_block (b1.block _ y0.lt)
  have d0 : w1.cell? ⟨(w.heap.size + 1), 0, none⟩ = some (.int .i64 y.a) := y1.c0
  have d1 : w1.cell? ⟨(w.heap.size + 1), 1, none⟩ = some (.int .u8 (y.k : Int)) := y1.c1
  have d2 : w1.cell? ⟨(w.heap.size + 1), 2, none⟩ = some (.int .i64 y.w) := y1.c2
  have d3 : w1.cell? ⟨(w.heap.size + 1), 3, none⟩ = some (.int .i64 y.t) := y1.c3
  have d4 : w1.cell? ⟨(w.heap.size + 1), 4, none⟩ = some (.int .i64 y.p) := y1.c4
  have d5 : w1.cell? ⟨(w.heap.size + 1), 5, none⟩ = some (.int .i64 y.c) := y1.c5
  have d6 : w1.cell? ⟨(w.heap.size + 1), 6, none⟩ = some (.int .i64 y.b) := y1.c6
  have d7 : w1.cell? ⟨(w.heap.size + 1), 7, none⟩ = some (.int .i64 y.q) := y1.c7
  have d8 : w1.cell? ⟨(w.heap.size + 1), 8, none⟩ = some (.int .i64 y.v) := y1.c8
  have d9 : w1.cell? ⟨(w.heap.size + 1), 9, none⟩ = some (.int .i64 y.u) := y1.c9
  have d10 : w1.cell? ⟨(w.heap.size + 1), 10, none⟩ = some (.bool y.o) := y1.c10
  have d11 : w1.cell? ⟨(w.heap.size + 1), 11, none⟩ = some (.int .i64 y.e) := y1.c11
  have d12 : w1.cell? ⟨(w.heap.size + 1), 12, none⟩ = some (.int .u64 (y.s : Int)) := y1.c12
  have l2' := l2 w1 (hv.below B1)
  clear b1 a0 x0 y0 l2
  go_wp2_with fail
  refine l2'.mono ?_
  rintro e w2 ⟨rfl, b2⟩
  have B2 := below_nx B1 b2 (Nat.le_refl _)
  have x2 : EnAt w2 w.heap.size x := x1.of_block (b2.block _ x1.lt)
  have y2 : EnAt w2 (w.heap.size + 1) y := y1.of_block (b2.block _ y1.lt)
  clear d0 d1 d2 d3 d4 d5 d6 d7 d8 d9 d10 d11 d12 b2 B1 x1 y1 l2'
  have c0 : w2.cell? ⟨w.heap.size, 0, none⟩ = some (.int .i64 x.a) := x2.c0
  have c1 : w2.cell? ⟨w.heap.size, 1, none⟩ = some (.int .u8 (x.k : Int)) := x2.c1
  have c2 : w2.cell? ⟨w.heap.size, 2, none⟩ = some (.int .i64 x.w) := x2.c2
  have c3 : w2.cell? ⟨w.heap.size, 3, none⟩ = some (.int .i64 x.t) := x2.c3
  have c4 : w2.cell? ⟨w.heap.size, 4, none⟩ = some (.int .i64 x.p) := x2.c4
  have c5 : w2.cell? ⟨w.heap.size, 5, none⟩ = some (.int .i64 x.c) := x2.c5
  have c6 : w2.cell? ⟨w.heap.size, 6, none⟩ = some (.int .i64 x.b) := x2.c6
  have c7 : w2.cell? ⟨w.heap.size, 7, none⟩ = some (.int .i64 x.q) := x2.c7
  have c8 : w2.cell? ⟨w.heap.size, 8, none⟩ = some (.int .i64 x.v) := x2.c8
  have c9 : w2.cell? ⟨w.heap.size, 9, none⟩ = some (.int .i64 x.u) := x2.c9
  have c10 : w2.cell? ⟨w.heap.size, 10, none⟩ = some (.bool x.o) := x2.c10
  have c11 : w2.cell? ⟨w.heap.size, 11, none⟩ = some (.int .i64 x.e) := x2.c11
  have c12 : w2.cell? ⟨w.heap.size, 12, none⟩ = some (.int .u64 (x.s : Int)) := x2.c12
  have l3' := l3 (w2.alloc (.cells #[.int .i64 x.a, .int .u8 (x.k : Int), .int .i64 x.w, .int .i64 x.t, .int .i64 x.p, .int .i64 x.c, .int .i64 x.b, .int .i64 x.q, .int .i64 x.v, .int .i64 x.u, .bool x.o, .int .i64 x.e, .int .u64 (x.s : Int)] 26)) _ (EnRow.one w2 x)
  clear l3
  go_wp2_with fail
  refine l3'.mono ?_
  rintro e w3 ⟨rfl, b3⟩
  have B3 := below_nx (B2.alloc B2.size _) b3 (Nat.le_refl _)
  have x3 : EnAt w3 w.heap.size x := (x2.alloc _).of_block (b3.block _ (x2.alloc _).lt)
  have y3 : EnAt w3 (w.heap.size + 1) y := (y2.alloc _).of_block (b3.block _ (y2.alloc _).lt)
  clear c0 c1 c2 c3 c4 c5 c6 c7 c8 c9 c10 c11 c12 x2 y2 b3 B2 l3'
  have d0 : w3.cell? ⟨(w.heap.size + 1), 0, none⟩ = some (.int .i64 y.a) := y3.c0
  have d1 : w3.cell? ⟨(w.heap.size + 1), 1, none⟩ = some (.int .u8 (y.k : Int)) := y3.c1
  have d2 : w3.cell? ⟨(w.heap.size + 1), 2, none⟩ = some (.int .i64 y.w) := y3.c2
  have d3 : w3.cell? ⟨(w.heap.size + 1), 3, none⟩ = some (.int .i64 y.t) := y3.c3
  have d4 : w3.cell? ⟨(w.heap.size + 1), 4, none⟩ = some (.int .i64 y.p) := y3.c4
  have d5 : w3.cell? ⟨(w.heap.size + 1), 5, none⟩ = some (.int .i64 y.c) := y3.c5
  have d6 : w3.cell? ⟨(w.heap.size + 1), 6, none⟩ = some (.int .i64 y.b) := y3.c6
  have d7 : w3.cell? ⟨(w.heap.size + 1), 7, none⟩ = some (.int .i64 y.q) := y3.c7
  have d8 : w3.cell? ⟨(w.heap.size + 1), 8, none⟩ = some (.int .i64 y.v) := y3.c8
  have d9 : w3.cell? ⟨(w.heap.size + 1), 9, none⟩ = some (.int .i64 y.u) := y3.c9
  have d10 : w3.cell? ⟨(w.heap.size + 1), 10, none⟩ = some (.bool y.o) := y3.c10
  have d11 : w3.cell? ⟨(w.heap.size + 1), 11, none⟩ = some (.int .i64 y.e) := y3.c11
  have d12 : w3.cell? ⟨(w.heap.size + 1), 12, none⟩ = some (.int .u64 (y.s : Int)) := y3.c12
  have l4' := l4 (w3.alloc (.cells #[.int .i64 y.a, .int .u8 (y.k : Int), .int .i64 y.w, .int .i64 y.t, .int .i64 y.p, .int .i64 y.c, .int .i64 y.b, .int .i64 y.q, .int .i64 y.v, .int .i64 y.u, .bool y.o, .int .i64 y.e, .int .u64 (y.s : Int)] 26)) _ (EnRow.one w3 y)
  clear l4
  go_wp2_with fail
  refine l4'.mono ?_
  rintro e w4 ⟨rfl, b4⟩
  have B4 := below_nx (B3.alloc B3.size _) b4 (Nat.le_refl _)
  have x4 : EnAt w4 w.heap.size x := (x3.alloc _).of_block (b4.block _ (x3.alloc _).lt)
  have y4 : EnAt w4 (w.heap.size + 1) y := (y3.alloc _).of_block (b4.block _ (y3.alloc _).lt)
  clear d0 d1 d2 d3 d4 d5 d6 d7 d8 d9 d10 d11 d12 x3 y3 b4 B3 l4'
  have c0 : w4.cell? ⟨w.heap.size, 0, none⟩ = some (.int .i64 x.a) := x4.c0
  have c1 : w4.cell? ⟨w.heap.size, 1, none⟩ = some (.int .u8 (x.k : Int)) := x4.c1
  have c2 : w4.cell? ⟨w.heap.size, 2, none⟩ = some (.int .i64 x.w) := x4.c2
  have c3 : w4.cell? ⟨w.heap.size, 3, none⟩ = some (.int .i64 x.t) := x4.c3
  have c4 : w4.cell? ⟨w.heap.size, 4, none⟩ = some (.int .i64 x.p) := x4.c4
  have c5 : w4.cell? ⟨w.heap.size, 5, none⟩ = some (.int .i64 x.c) := x4.c5
  have c6 : w4.cell? ⟨w.heap.size, 6, none⟩ = some (.int .i64 x.b) := x4.c6
  have c7 : w4.cell? ⟨w.heap.size, 7, none⟩ = some (.int .i64 x.q) := x4.c7
  have c8 : w4.cell? ⟨w.heap.size, 8, none⟩ = some (.int .i64 x.v) := x4.c8
  have c9 : w4.cell? ⟨w.heap.size, 9, none⟩ = some (.int .i64 x.u) := x4.c9
  have c10 : w4.cell? ⟨w.heap.size, 10, none⟩ = some (.bool x.o) := x4.c10
  have c11 : w4.cell? ⟨w.heap.size, 11, none⟩ = some (.int .i64 x.e) := x4.c11
  have c12 : w4.cell? ⟨w.heap.size, 12, none⟩ = some (.int .u64 (x.s : Int)) := x4.c12
  have l5' := l5 w4
  clear l5
  go_wp2_with fail
  refine l5'.mono ?_
  rintro e w5 ⟨rfl, b5⟩
  have B5 := below_nx B4 b5 (Nat.le_refl _)
  have x5 : EnAt w5 w.heap.size x := x4.of_block (b5.block _ x4.lt)
  have y5 : EnAt w5 (w.heap.size + 1) y := y4.of_block (b5.block _ y4.lt)
  clear c0 c1 c2 c3 c4 c5 c6 c7 c8 c9 c10 c11 c12 x4 y4 b5 B4 l5'
  have l6 := ealive_any w5 (hv.below B5)
  have c0 : w5.cell? ⟨w.heap.size, 0, none⟩ = some (.int .i64 x.a) := x5.c0
  have c1 : w5.cell? ⟨w.heap.size, 1, none⟩ = some (.int .u8 (x.k : Int)) := x5.c1
  have c2 : w5.cell? ⟨w.heap.size, 2, none⟩ = some (.int .i64 x.w) := x5.c2
  have c3 : w5.cell? ⟨w.heap.size, 3, none⟩ = some (.int .i64 x.t) := x5.c3
  have c4 : w5.cell? ⟨w.heap.size, 4, none⟩ = some (.int .i64 x.p) := x5.c4
  have c5 : w5.cell? ⟨w.heap.size, 5, none⟩ = some (.int .i64 x.c) := x5.c5
  have c6 : w5.cell? ⟨w.heap.size, 6, none⟩ = some (.int .i64 x.b) := x5.c6
  have c7 : w5.cell? ⟨w.heap.size, 7, none⟩ = some (.int .i64 x.q) := x5.c7
  have c8 : w5.cell? ⟨w.heap.size, 8, none⟩ = some (.int .i64 x.v) := x5.c8
  have c9 : w5.cell? ⟨w.heap.size, 9, none⟩ = some (.int .i64 x.u) := x5.c9
  have c10 : w5.cell? ⟨w.heap.size, 10, none⟩ = some (.bool x.o) := x5.c10
  have c11 : w5.cell? ⟨w.heap.size, 11, none⟩ = some (.int .i64 x.e) := x5.c11
  have c12 : w5.cell? ⟨w.heap.size, 12, none⟩ = some (.int .u64 (x.s : Int)) := x5.c12
  have d0 : w5.cell? ⟨(w.heap.size + 1), 0, none⟩ = some (.int .i64 y.a) := y5.c0
  have d1 : w5.cell? ⟨(w.heap.size + 1), 1, none⟩ = some (.int .u8 (y.k : Int)) := y5.c1
  have d2 : w5.cell? ⟨(w.heap.size + 1), 2, none⟩ = some (.int .i64 y.w) := y5.c2
  have d3 : w5.cell? ⟨(w.heap.size + 1), 3, none⟩ = some (.int .i64 y.t) := y5.c3
  have d4 : w5.cell? ⟨(w.heap.size + 1), 4, none⟩ = some (.int .i64 y.p) := y5.c4
  have d5 : w5.cell? ⟨(w.heap.size + 1), 5, none⟩ = some (.int .i64 y.c) := y5.c5
  have d6 : w5.cell? ⟨(w.heap.size + 1), 6, none⟩ = some (.int .i64 y.b) := y5.c6
  have d7 : w5.cell? ⟨(w.heap.size + 1), 7, none⟩ = some (.int .i64 y.q) := y5.c7
  have d8 : w5.cell? ⟨(w.heap.size + 1), 8, none⟩ = some (.int .i64 y.v) := y5.c8
  have d9 : w5.cell? ⟨(w.heap.size + 1), 9, none⟩ = some (.int .i64 y.u) := y5.c9
  have d10 : w5.cell? ⟨(w.heap.size + 1), 10, none⟩ = some (.bool y.o) := y5.c10
  have d11 : w5.cell? ⟨(w.heap.size + 1), 11, none⟩ = some (.int .i64 y.e) := y5.c11
  have d12 : w5.cell? ⟨(w.heap.size + 1), 12, none⟩ = some (.int .u64 (y.s : Int)) := y5.c12
  have hr := eq_run x y
  rw [hq] at hr
  clear x5 y5
  have he : (((⟨S.toArray⟩ : ByteArray).extract 0 S.length).toList == S) = true := by rw [take_extE]; simp
  go_wp2_with fail
  refine l6.mono ?_
  rintro e w6 ⟨rfl, b6⟩
  have B6 := below_nx B5 b6 (Nat.le_refl _)
  go_wp2_with fail
  go_ret
  exact ⟨rfl, B6⟩
set_option maxRecDepth 100000 in
set_option maxHeartbeats 6400000 in
theorem eapart_diff (x y : En) (hx : x.ok) (hy : y.ok) (mx : okB x = true) (my : okB y = true) (hxy : ¬ x = y) (w : World) (hv : Vars w) :
    Calls Tryd.prog 5 #[x.val, y.val] w fun e w' => e = .returned (.bool true) ∧ Below w.heap.size w w' := by
  change Calls Tryd.prog 5 #[.agg #[.int .i64 x.a, .int .u8 (x.k : Int), .int .i64 x.w, .int .i64 x.t, .int .i64 x.p, .int .i64 x.c, .int .i64 x.b, .int .i64 x.q, .int .i64 x.v, .int .i64 x.u, .bool x.o, .int .i64 x.e, .int .u64 (x.s : Int)], .agg #[.int .i64 y.a, .int .u8 (y.k : Int), .int .i64 y.w, .int .i64 y.t, .int .i64 y.p, .int .i64 y.c, .int .i64 y.b, .int .i64 y.q, .int .i64 y.v, .int .i64 y.u, .bool y.o, .int .i64 y.e, .int .u64 (y.s : Int)]] w _
  obtain ⟨A, hA⟩ : ∃ A, A = lineV x := ⟨_, rfl⟩
  obtain ⟨B, hB⟩ : ∃ B, B = lineV y := ⟨_, rfl⟩
  obtain ⟨S, hS⟩ : ∃ S, S = putS [x] := ⟨_, rfl⟩
  obtain ⟨T, hT⟩ : ∃ T, T = putS [y] := ⟨_, rfl⟩
  have zx : checkE x = 0 := by unfold checkE; rw [mx]; rfl
  have zy : checkE y = 0 := by unfold checkE; rw [my]; rfl
  have l1 : ∀ W, Vars W → Calls Tryd.prog 7 #[.agg #[.int .i64 x.a, .int .u8 (x.k : Int), .int .i64 x.w, .int .i64 x.t, .int .i64 x.p, .int .i64 x.c, .int .i64 x.b, .int .i64 x.q, .int .i64 x.v, .int .i64 x.u, .bool x.o, .int .i64 x.e, .int .u64 (x.s : Int)]] W fun e w' => e = .returned (.tuple #[.string ⟨A.toArray⟩, .int .i64 0]) ∧ Below W.heap.size W w' := fun W hW => by
    have h := eline_any x hx W hW
    rw [zx, ← hA] at h
    exact h
  have l2 : ∀ W, Vars W → Calls Tryd.prog 7 #[.agg #[.int .i64 y.a, .int .u8 (y.k : Int), .int .i64 y.w, .int .i64 y.t, .int .i64 y.p, .int .i64 y.c, .int .i64 y.b, .int .i64 y.q, .int .i64 y.v, .int .i64 y.u, .bool y.o, .int .i64 y.e, .int .u64 (y.s : Int)]] W fun e w' => e = .returned (.tuple #[.string ⟨B.toArray⟩, .int .i64 0]) ∧ Below W.heap.size W w' := fun W hW => by
    have h := eline_any y hy W hW
    rw [zy, ← hB] at h
    exact h
  have l3 : ∀ W v, EnRow W v [x] → Calls Tryd.prog 9 #[v] W fun e w' => e = .returned (.tuple #[.string ⟨S.toArray⟩, .int .i64 0]) ∧ Below W.heap.size W w' := fun W v hr => by
    have h := eputs_any v [x] W hr (by intro z hz; obtain rfl := List.mem_singleton.1 hz; exact hx) (by simp)
    rw [putE_one, zx, ← hS] at h
    exact h
  have l4 : ∀ W v, EnRow W v [y] → Calls Tryd.prog 9 #[v] W fun e w' => e = .returned (.tuple #[.string ⟨T.toArray⟩, .int .i64 0]) ∧ Below W.heap.size W w' := fun W v hr => by
    have h := eputs_any v [y] W hr (by intro z hz; obtain rfl := List.mem_singleton.1 hz; exact hy) (by simp)
    rw [putE_one, zy, ← hT] at h
    exact h
  have l5 : ∀ W, Calls Tryd.prog 13 #[.agg #[.int .i64 x.a, .int .u8 (x.k : Int), .int .i64 x.w, .int .i64 x.t, .int .i64 x.p, .int .i64 x.c, .int .i64 x.b, .int .i64 x.q, .int .i64 x.v, .int .i64 x.u, .bool x.o, .int .i64 x.e, .int .u64 (x.s : Int)]] W fun e w' => e = .returned (.int .i64 0) ∧ Below W.heap.size W w' := fun W => by
    have h := check_any x hx W
    rw [zx] at h
    exact h
  have zS : S.length ≤ 100 := by rw [hS, putS_one mx]; exact enL_len hx mx
  have zT : T.length ≤ 100 := by rw [hT, putS_one my]; exact enL_len hy my
  have hAB : (A == B) = false := by
    rw [beq_eq_false_iff_ne, hA, hB]
    unfold lineV
    rw [mx, my]
    exact fun h => hxy (line_inj mx my h)
  have hST : (S == T) = false := by
    rw [beq_eq_false_iff_ne, hS, hT, putS_one mx, putS_one my]
    exact fun h => hxy (enL_inj hx hy mx my h)
  have htk : decide (T.take S.length = S) = false := by
    rw [decide_eq_false_iff_not, hS, hT, putS_one mx, putS_one my]
    exact fun h => hxy (en_pre hx hy mx my h)
  have hq : En.eq x y = false := by rw [En.eq_decide, decide_eq_false hxy]
  clear hA hB hS hT zx zy mx my hx hy hxy
  have a0 : Below w.heap.size w ((w.alloc (.cells #[.int .i64 x.a, .int .u8 (x.k : Int), .int .i64 x.w, .int .i64 x.t, .int .i64 x.p, .int .i64 x.c, .int .i64 x.b, .int .i64 x.q, .int .i64 x.v, .int .i64 x.u, .bool x.o, .int .i64 x.e, .int .u64 (x.s : Int)] 26)).alloc (.cells #[.int .i64 y.a, .int .u8 (y.k : Int), .int .i64 y.w, .int .i64 y.t, .int .i64 y.p, .int .i64 y.c, .int .i64 y.b, .int .i64 y.q, .int .i64 y.v, .int .i64 y.u, .bool y.o, .int .i64 y.e, .int .u64 (y.s : Int)] 26)) := below2 w _ _
  have x0 : EnAt ((w.alloc (.cells #[.int .i64 x.a, .int .u8 (x.k : Int), .int .i64 x.w, .int .i64 x.t, .int .i64 x.p, .int .i64 x.c, .int .i64 x.b, .int .i64 x.q, .int .i64 x.v, .int .i64 x.u, .bool x.o, .int .i64 x.e, .int .u64 (x.s : Int)] 26)).alloc (.cells #[.int .i64 y.a, .int .u8 (y.k : Int), .int .i64 y.w, .int .i64 y.t, .int .i64 y.p, .int .i64 y.c, .int .i64 y.b, .int .i64 y.q, .int .i64 y.v, .int .i64 y.u, .bool y.o, .int .i64 y.e, .int .u64 (y.s : Int)] 26)) w.heap.size x := (enAt_new w x).alloc _
  have y0 : EnAt ((w.alloc (.cells #[.int .i64 x.a, .int .u8 (x.k : Int), .int .i64 x.w, .int .i64 x.t, .int .i64 x.p, .int .i64 x.c, .int .i64 x.b, .int .i64 x.q, .int .i64 x.v, .int .i64 x.u, .bool x.o, .int .i64 x.e, .int .u64 (x.s : Int)] 26)).alloc (.cells #[.int .i64 y.a, .int .u8 (y.k : Int), .int .i64 y.w, .int .i64 y.t, .int .i64 y.p, .int .i64 y.c, .int .i64 y.b, .int .i64 y.q, .int .i64 y.v, .int .i64 y.u, .bool y.o, .int .i64 y.e, .int .u64 (y.s : Int)] 26)) (w.heap.size + 1) y := by
    have h := enAt_new (w.alloc (.cells #[.int .i64 x.a, .int .u8 (x.k : Int), .int .i64 x.w, .int .i64 x.t, .int .i64 x.p, .int .i64 x.c, .int .i64 x.b, .int .i64 x.q, .int .i64 x.v, .int .i64 x.u, .bool x.o, .int .i64 x.e, .int .u64 (x.s : Int)] 26)) y
    rwa [World.size_alloc] at h
  obtain ⟨W0, hW0⟩ : ∃ W0, W0 = (w.alloc (.cells #[.int .i64 x.a, .int .u8 (x.k : Int), .int .i64 x.w, .int .i64 x.t, .int .i64 x.p, .int .i64 x.c, .int .i64 x.b, .int .i64 x.q, .int .i64 x.v, .int .i64 x.u, .bool x.o, .int .i64 x.e, .int .u64 (x.s : Int)] 26)).alloc (.cells #[.int .i64 y.a, .int .u8 (y.k : Int), .int .i64 y.w, .int .i64 y.t, .int .i64 y.p, .int .i64 y.c, .int .i64 y.b, .int .i64 y.q, .int .i64 y.v, .int .i64 y.u, .bool y.o, .int .i64 y.e, .int .u64 (y.s : Int)] 26) := ⟨_, rfl⟩
  rw [← hW0] at a0 x0 y0
  have l1' := l1 W0 (hv.below a0)
  have c0 : W0.cell? ⟨w.heap.size, 0, none⟩ = some (.int .i64 x.a) := x0.c0
  have c1 : W0.cell? ⟨w.heap.size, 1, none⟩ = some (.int .u8 (x.k : Int)) := x0.c1
  have c2 : W0.cell? ⟨w.heap.size, 2, none⟩ = some (.int .i64 x.w) := x0.c2
  have c3 : W0.cell? ⟨w.heap.size, 3, none⟩ = some (.int .i64 x.t) := x0.c3
  have c4 : W0.cell? ⟨w.heap.size, 4, none⟩ = some (.int .i64 x.p) := x0.c4
  have c5 : W0.cell? ⟨w.heap.size, 5, none⟩ = some (.int .i64 x.c) := x0.c5
  have c6 : W0.cell? ⟨w.heap.size, 6, none⟩ = some (.int .i64 x.b) := x0.c6
  have c7 : W0.cell? ⟨w.heap.size, 7, none⟩ = some (.int .i64 x.q) := x0.c7
  have c8 : W0.cell? ⟨w.heap.size, 8, none⟩ = some (.int .i64 x.v) := x0.c8
  have c9 : W0.cell? ⟨w.heap.size, 9, none⟩ = some (.int .i64 x.u) := x0.c9
  have c10 : W0.cell? ⟨w.heap.size, 10, none⟩ = some (.bool x.o) := x0.c10
  have c11 : W0.cell? ⟨w.heap.size, 11, none⟩ = some (.int .i64 x.e) := x0.c11
  have c12 : W0.cell? ⟨w.heap.size, 12, none⟩ = some (.int .u64 (x.s : Int)) := x0.c12
  rw [hW0] at l1' c0 c1 c2 c3 c4 c5 c6 c7 c8 c9 c10 c11 c12
  go_enter Tryd.func5, Tryd.ntmps5
  go_wp2_with fail
  refine l1'.mono ?_
  rw [← hW0]
  clear hW0 l1' l1 c0 c1 c2 c3 c4 c5 c6 c7 c8 c9 c10 c11 c12
  rintro e w1 ⟨rfl, b1⟩
  have B1 := below_nx a0 b1 (Nat.le_refl _)
  have x1 : EnAt w1 w.heap.size x := x0.of_block (b1.block _ x0.lt)
  have y1 : EnAt w1 (w.heap.size + 1) y := y0.of_block (b1.block _ y0.lt)
  have d0 : w1.cell? ⟨(w.heap.size + 1), 0, none⟩ = some (.int .i64 y.a) := y1.c0
  have d1 : w1.cell? ⟨(w.heap.size + 1), 1, none⟩ = some (.int .u8 (y.k : Int)) := y1.c1
  have d2 : w1.cell? ⟨(w.heap.size + 1), 2, none⟩ = some (.int .i64 y.w) := y1.c2
  have d3 : w1.cell? ⟨(w.heap.size + 1), 3, none⟩ = some (.int .i64 y.t) := y1.c3
  have d4 : w1.cell? ⟨(w.heap.size + 1), 4, none⟩ = some (.int .i64 y.p) := y1.c4
  have d5 : w1.cell? ⟨(w.heap.size + 1), 5, none⟩ = some (.int .i64 y.c) := y1.c5
  have d6 : w1.cell? ⟨(w.heap.size + 1), 6, none⟩ = some (.int .i64 y.b) := y1.c6
  have d7 : w1.cell? ⟨(w.heap.size + 1), 7, none⟩ = some (.int .i64 y.q) := y1.c7
  have d8 : w1.cell? ⟨(w.heap.size + 1), 8, none⟩ = some (.int .i64 y.v) := y1.c8
  have d9 : w1.cell? ⟨(w.heap.size + 1), 9, none⟩ = some (.int .i64 y.u) := y1.c9
  have d10 : w1.cell? ⟨(w.heap.size + 1), 10, none⟩ = some (.bool y.o) := y1.c10
  have d11 : w1.cell? ⟨(w.heap.size + 1), 11, none⟩ = some (.int .i64 y.e) := y1.c11
  have d12 : w1.cell? ⟨(w.heap.size + 1), 12, none⟩ = some (.int .u64 (y.s : Int)) := y1.c12
  have l2' := l2 w1 (hv.below B1)
  clear b1 a0 x0 y0 l2
  go_wp2_with fail
  refine l2'.mono ?_
  rintro e w2 ⟨rfl, b2⟩
  have B2 := below_nx B1 b2 (Nat.le_refl _)
  have x2 : EnAt w2 w.heap.size x := x1.of_block (b2.block _ x1.lt)
  have y2 : EnAt w2 (w.heap.size + 1) y := y1.of_block (b2.block _ y1.lt)
  clear d0 d1 d2 d3 d4 d5 d6 d7 d8 d9 d10 d11 d12 b2 B1 x1 y1 l2'
  have c0 : w2.cell? ⟨w.heap.size, 0, none⟩ = some (.int .i64 x.a) := x2.c0
  have c1 : w2.cell? ⟨w.heap.size, 1, none⟩ = some (.int .u8 (x.k : Int)) := x2.c1
  have c2 : w2.cell? ⟨w.heap.size, 2, none⟩ = some (.int .i64 x.w) := x2.c2
  have c3 : w2.cell? ⟨w.heap.size, 3, none⟩ = some (.int .i64 x.t) := x2.c3
  have c4 : w2.cell? ⟨w.heap.size, 4, none⟩ = some (.int .i64 x.p) := x2.c4
  have c5 : w2.cell? ⟨w.heap.size, 5, none⟩ = some (.int .i64 x.c) := x2.c5
  have c6 : w2.cell? ⟨w.heap.size, 6, none⟩ = some (.int .i64 x.b) := x2.c6
  have c7 : w2.cell? ⟨w.heap.size, 7, none⟩ = some (.int .i64 x.q) := x2.c7
  have c8 : w2.cell? ⟨w.heap.size, 8, none⟩ = some (.int .i64 x.v) := x2.c8
  have c9 : w2.cell? ⟨w.heap.size, 9, none⟩ = some (.int .i64 x.u) := x2.c9
  have c10 : w2.cell? ⟨w.heap.size, 10, none⟩ = some (.bool x.o) := x2.c10
  have c11 : w2.cell? ⟨w.heap.size, 11, none⟩ = some (.int .i64 x.e) := x2.c11
  have c12 : w2.cell? ⟨w.heap.size, 12, none⟩ = some (.int .u64 (x.s : Int)) := x2.c12
  have l3' := l3 (w2.alloc (.cells #[.int .i64 x.a, .int .u8 (x.k : Int), .int .i64 x.w, .int .i64 x.t, .int .i64 x.p, .int .i64 x.c, .int .i64 x.b, .int .i64 x.q, .int .i64 x.v, .int .i64 x.u, .bool x.o, .int .i64 x.e, .int .u64 (x.s : Int)] 26)) _ (EnRow.one w2 x)
  clear l3
  go_wp2_with fail
  refine l3'.mono ?_
  rintro e w3 ⟨rfl, b3⟩
  have B3 := below_nx (B2.alloc B2.size _) b3 (Nat.le_refl _)
  have x3 : EnAt w3 w.heap.size x := (x2.alloc _).of_block (b3.block _ (x2.alloc _).lt)
  have y3 : EnAt w3 (w.heap.size + 1) y := (y2.alloc _).of_block (b3.block _ (y2.alloc _).lt)
  clear c0 c1 c2 c3 c4 c5 c6 c7 c8 c9 c10 c11 c12 x2 y2 b3 B2 l3'
  have d0 : w3.cell? ⟨(w.heap.size + 1), 0, none⟩ = some (.int .i64 y.a) := y3.c0
  have d1 : w3.cell? ⟨(w.heap.size + 1), 1, none⟩ = some (.int .u8 (y.k : Int)) := y3.c1
  have d2 : w3.cell? ⟨(w.heap.size + 1), 2, none⟩ = some (.int .i64 y.w) := y3.c2
  have d3 : w3.cell? ⟨(w.heap.size + 1), 3, none⟩ = some (.int .i64 y.t) := y3.c3
  have d4 : w3.cell? ⟨(w.heap.size + 1), 4, none⟩ = some (.int .i64 y.p) := y3.c4
  have d5 : w3.cell? ⟨(w.heap.size + 1), 5, none⟩ = some (.int .i64 y.c) := y3.c5
  have d6 : w3.cell? ⟨(w.heap.size + 1), 6, none⟩ = some (.int .i64 y.b) := y3.c6
  have d7 : w3.cell? ⟨(w.heap.size + 1), 7, none⟩ = some (.int .i64 y.q) := y3.c7
  have d8 : w3.cell? ⟨(w.heap.size + 1), 8, none⟩ = some (.int .i64 y.v) := y3.c8
  have d9 : w3.cell? ⟨(w.heap.size + 1), 9, none⟩ = some (.int .i64 y.u) := y3.c9
  have d10 : w3.cell? ⟨(w.heap.size + 1), 10, none⟩ = some (.bool y.o) := y3.c10
  have d11 : w3.cell? ⟨(w.heap.size + 1), 11, none⟩ = some (.int .i64 y.e) := y3.c11
  have d12 : w3.cell? ⟨(w.heap.size + 1), 12, none⟩ = some (.int .u64 (y.s : Int)) := y3.c12
  have l4' := l4 (w3.alloc (.cells #[.int .i64 y.a, .int .u8 (y.k : Int), .int .i64 y.w, .int .i64 y.t, .int .i64 y.p, .int .i64 y.c, .int .i64 y.b, .int .i64 y.q, .int .i64 y.v, .int .i64 y.u, .bool y.o, .int .i64 y.e, .int .u64 (y.s : Int)] 26)) _ (EnRow.one w3 y)
  clear l4
  go_wp2_with fail
  refine l4'.mono ?_
  rintro e w4 ⟨rfl, b4⟩
  have B4 := below_nx (B3.alloc B3.size _) b4 (Nat.le_refl _)
  have x4 : EnAt w4 w.heap.size x := (x3.alloc _).of_block (b4.block _ (x3.alloc _).lt)
  have y4 : EnAt w4 (w.heap.size + 1) y := (y3.alloc _).of_block (b4.block _ (y3.alloc _).lt)
  clear d0 d1 d2 d3 d4 d5 d6 d7 d8 d9 d10 d11 d12 x3 y3 b4 B3 l4'
  have c0 : w4.cell? ⟨w.heap.size, 0, none⟩ = some (.int .i64 x.a) := x4.c0
  have c1 : w4.cell? ⟨w.heap.size, 1, none⟩ = some (.int .u8 (x.k : Int)) := x4.c1
  have c2 : w4.cell? ⟨w.heap.size, 2, none⟩ = some (.int .i64 x.w) := x4.c2
  have c3 : w4.cell? ⟨w.heap.size, 3, none⟩ = some (.int .i64 x.t) := x4.c3
  have c4 : w4.cell? ⟨w.heap.size, 4, none⟩ = some (.int .i64 x.p) := x4.c4
  have c5 : w4.cell? ⟨w.heap.size, 5, none⟩ = some (.int .i64 x.c) := x4.c5
  have c6 : w4.cell? ⟨w.heap.size, 6, none⟩ = some (.int .i64 x.b) := x4.c6
  have c7 : w4.cell? ⟨w.heap.size, 7, none⟩ = some (.int .i64 x.q) := x4.c7
  have c8 : w4.cell? ⟨w.heap.size, 8, none⟩ = some (.int .i64 x.v) := x4.c8
  have c9 : w4.cell? ⟨w.heap.size, 9, none⟩ = some (.int .i64 x.u) := x4.c9
  have c10 : w4.cell? ⟨w.heap.size, 10, none⟩ = some (.bool x.o) := x4.c10
  have c11 : w4.cell? ⟨w.heap.size, 11, none⟩ = some (.int .i64 x.e) := x4.c11
  have c12 : w4.cell? ⟨w.heap.size, 12, none⟩ = some (.int .u64 (x.s : Int)) := x4.c12
  have l5' := l5 w4
  clear l5
  go_wp2_with fail
  refine l5'.mono ?_
  rintro e w5 ⟨rfl, b5⟩
  have B5 := below_nx B4 b5 (Nat.le_refl _)
  have x5 : EnAt w5 w.heap.size x := x4.of_block (b5.block _ x4.lt)
  have y5 : EnAt w5 (w.heap.size + 1) y := y4.of_block (b5.block _ y4.lt)
  clear c0 c1 c2 c3 c4 c5 c6 c7 c8 c9 c10 c11 c12 x4 y4 b5 B4 l5'
  have l6 := ealive_any w5 (hv.below B5)
  have c0 : w5.cell? ⟨w.heap.size, 0, none⟩ = some (.int .i64 x.a) := x5.c0
  have c1 : w5.cell? ⟨w.heap.size, 1, none⟩ = some (.int .u8 (x.k : Int)) := x5.c1
  have c2 : w5.cell? ⟨w.heap.size, 2, none⟩ = some (.int .i64 x.w) := x5.c2
  have c3 : w5.cell? ⟨w.heap.size, 3, none⟩ = some (.int .i64 x.t) := x5.c3
  have c4 : w5.cell? ⟨w.heap.size, 4, none⟩ = some (.int .i64 x.p) := x5.c4
  have c5 : w5.cell? ⟨w.heap.size, 5, none⟩ = some (.int .i64 x.c) := x5.c5
  have c6 : w5.cell? ⟨w.heap.size, 6, none⟩ = some (.int .i64 x.b) := x5.c6
  have c7 : w5.cell? ⟨w.heap.size, 7, none⟩ = some (.int .i64 x.q) := x5.c7
  have c8 : w5.cell? ⟨w.heap.size, 8, none⟩ = some (.int .i64 x.v) := x5.c8
  have c9 : w5.cell? ⟨w.heap.size, 9, none⟩ = some (.int .i64 x.u) := x5.c9
  have c10 : w5.cell? ⟨w.heap.size, 10, none⟩ = some (.bool x.o) := x5.c10
  have c11 : w5.cell? ⟨w.heap.size, 11, none⟩ = some (.int .i64 x.e) := x5.c11
  have c12 : w5.cell? ⟨w.heap.size, 12, none⟩ = some (.int .u64 (x.s : Int)) := x5.c12
  have d0 : w5.cell? ⟨(w.heap.size + 1), 0, none⟩ = some (.int .i64 y.a) := y5.c0
  have d1 : w5.cell? ⟨(w.heap.size + 1), 1, none⟩ = some (.int .u8 (y.k : Int)) := y5.c1
  have d2 : w5.cell? ⟨(w.heap.size + 1), 2, none⟩ = some (.int .i64 y.w) := y5.c2
  have d3 : w5.cell? ⟨(w.heap.size + 1), 3, none⟩ = some (.int .i64 y.t) := y5.c3
  have d4 : w5.cell? ⟨(w.heap.size + 1), 4, none⟩ = some (.int .i64 y.p) := y5.c4
  have d5 : w5.cell? ⟨(w.heap.size + 1), 5, none⟩ = some (.int .i64 y.c) := y5.c5
  have d6 : w5.cell? ⟨(w.heap.size + 1), 6, none⟩ = some (.int .i64 y.b) := y5.c6
  have d7 : w5.cell? ⟨(w.heap.size + 1), 7, none⟩ = some (.int .i64 y.q) := y5.c7
  have d8 : w5.cell? ⟨(w.heap.size + 1), 8, none⟩ = some (.int .i64 y.v) := y5.c8
  have d9 : w5.cell? ⟨(w.heap.size + 1), 9, none⟩ = some (.int .i64 y.u) := y5.c9
  have d10 : w5.cell? ⟨(w.heap.size + 1), 10, none⟩ = some (.bool y.o) := y5.c10
  have d11 : w5.cell? ⟨(w.heap.size + 1), 11, none⟩ = some (.int .i64 y.e) := y5.c11
  have d12 : w5.cell? ⟨(w.heap.size + 1), 12, none⟩ = some (.int .u64 (y.s : Int)) := y5.c12
  have hr := eq_run x y
  rw [hq] at hr
  clear x5 y5
  have he : (((⟨T.toArray⟩ : ByteArray).extract 0 S.length).toList == S) = false := by rw [take_extE]; exact htk
  clear htk
  by_cases hl : S.length ≤ T.length
  · have hl' : (S.length : Int) ≤ (T.length : Int) := by omega
    go_wp2_with fail
    refine l6.mono ?_
    rintro e w6 ⟨rfl, b6⟩
    have B6 := below_nx B5 b6 (Nat.le_refl _)
    go_wp2_with fail
    go_ret
    exact ⟨rfl, B6⟩
  · have hl' : ¬ (S.length : Int) ≤ (T.length : Int) := by omega
    have hld : decide ((S.length : Int) ≤ (T.length : Int)) = false := by simpa using hl
    go_wp2_with fail
    refine l6.mono ?_
    rintro e w6 ⟨rfl, b6⟩
    have B6 := below_nx B5 b6 (Nat.le_refl _)
    go_wp2_with fail
    go_ret
    exact ⟨rfl, B6⟩
theorem eapart_any (x y : En) (hx : x.ok) (hy : y.ok) (w : World) (hv : Vars w) :
    Calls Tryd.prog 5 #[x.val, y.val] w fun e w' => e = .returned (.bool true) ∧ Below w.heap.size w w' := by
  cases mx : okB x with
  | false =>
    cases my : okB y with
    | false => exact eapart_no_no x y hx hy mx my w hv
    | true => exact eapart_no_yes x y hx hy mx my w hv
  | true =>
    cases my : okB y with
    | false => exact eapart_yes_no x y hx hy mx my w hv
    | true =>
      by_cases hxy : x = y
      · exact eapart_same x y hx hy mx my hxy w hv
      · exact eapart_diff x y hx hy mx my hxy w hv
end Go.Proofs.YtengpehiknoheaaDoor
