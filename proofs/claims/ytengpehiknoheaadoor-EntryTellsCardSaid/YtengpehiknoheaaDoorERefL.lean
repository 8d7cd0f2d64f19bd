/-
  The walk of the document's Line; which line this is.
-/
import Derived.Test.YtengpehiknoheaaDoorERefM
import Derived.Test.YtengpehiknoheaaDoorERefB
namespace Go.Proofs.YtengpehiknoheaaDoor
open Go.RowKit Go.Shelf Oct

attribute [local go_sem] Oper.semAt_some

def pcL (p : Bool × Int) : List UInt8 := ifL p.1 (32 :: Lib.itoa p.2)
def ten (x : En) : List (Bool × Int) := [(nWorker x.k, x.w), (nTask x.k, x.t), (nPeer x.k, x.p), (nCh x.k, x.c), (nCase x.k, x.b), (nPeerCase x.k, x.q), (nVal x.k, x.v), (nVal2 x.k, x.u), (nOk x.k, flagI x.o), (nCode x.k, x.e)]
theorem line_parts (x : En) (hk : known x.k = true) : ((Lib.itoa x.a ++ [32]) ++ wordL x.k) ++ ((ten x).flatMap pcL ++ ifL (nSet x.k) (32 :: Lib.decDigits x.s)) = lineL x := by
  unfold lineL lineH
  rw [line_fold]
  obtain ⟨a, k, w, t, p, c, b, q, v, u, o, e, s⟩ := x
  rcases known_cases hk with rfl | rfl | rfl | rfl | rfl | rfl | rfl | rfl | rfl | rfl | rfl | rfl | rfl | rfl | rfl | rfl | rfl
  all_goals simp [tailL, namesOf, pieceL, En.get, ten, pcL, ifL, nWorker, nTask, nPeer, nCh, nCase, nPeerCase, nVal, nVal2, nOk, nCode, nSet]
theorem fl_newG (W : World) (ps : List (Bool × Int)) : FlAt (W.alloc (.cells (ps.map fun p => Value.bool p.1).toArray 4)) W.heap.size ps := by
  refine ⟨by simp, fun k p hp => ?_⟩
  simp only [World.cell?, World.alloc_heap_new]
  simp [hp]
theorem vl_newG (W : World) (ps : List (Bool × Int)) : VlAt (W.alloc (.cells (ps.map fun p => Value.int .i64 p.2).toArray 2)) W.heap.size ps := by
  refine ⟨by simp, fun k p hp => ?_⟩
  simp only [World.cell?, World.alloc_heap_new]
  simp [hp]
theorem rline_no (x : En) (hx : x.ok) (h : okB x = false) (w : World) :
    Calls Tryd.prog 8 #[.agg #[.int .i64 x.a, .int .u8 (x.k : Int), .int .i64 x.w, .int .i64 x.t, .int .i64 x.p, .int .i64 x.c, .int .i64 x.b, .int .i64 x.q, .int .i64 x.v, .int .i64 x.u, .bool x.o, .int .i64 x.e, .int .u64 (x.s : Int)]] w fun e w' => e = .returned (.tuple #[.string ⟨#[]⟩, .int .i64 2]) ∧ Below w.heap.size w w' := by
  have hmay := rmay_any x hx (w.alloc (.cells #[.int .i64 x.a, .int .u8 (x.k : Int), .int .i64 x.w, .int .i64 x.t, .int .i64 x.p, .int .i64 x.c, .int .i64 x.b, .int .i64 x.q, .int .i64 x.v, .int .i64 x.u, .bool x.o, .int .i64 x.e, .int .u64 (x.s : Int)] 26))
  rw [h] at hmay
  have hmay2 : Calls Tryd.prog 14 #[.agg #[.int .i64 x.a, .int .u8 (x.k : Int), .int .i64 x.w, .int .i64 x.t, .int .i64 x.p, .int .i64 x.c, .int .i64 x.b, .int .i64 x.q, .int .i64 x.v, .int .i64 x.u, .bool x.o, .int .i64 x.e, .int .u64 (x.s : Int)]] (w.alloc (.cells #[.int .i64 x.a, .int .u8 (x.k : Int), .int .i64 x.w, .int .i64 x.t, .int .i64 x.p, .int .i64 x.c, .int .i64 x.b, .int .i64 x.q, .int .i64 x.v, .int .i64 x.u, .bool x.o, .int .i64 x.e, .int .u64 (x.s : Int)] 26)) _ := hmay
  have hX := enAt_new w x
  have y0 : (w.alloc (.cells #[.int .i64 x.a, .int .u8 (x.k : Int), .int .i64 x.w, .int .i64 x.t, .int .i64 x.p, .int .i64 x.c, .int .i64 x.b, .int .i64 x.q, .int .i64 x.v, .int .i64 x.u, .bool x.o, .int .i64 x.e, .int .u64 (x.s : Int)] 26)).cell? ⟨w.heap.size, 0, none⟩ = some (.int .i64 x.a) := hX.c0
  have y1 : (w.alloc (.cells #[.int .i64 x.a, .int .u8 (x.k : Int), .int .i64 x.w, .int .i64 x.t, .int .i64 x.p, .int .i64 x.c, .int .i64 x.b, .int .i64 x.q, .int .i64 x.v, .int .i64 x.u, .bool x.o, .int .i64 x.e, .int .u64 (x.s : Int)] 26)).cell? ⟨w.heap.size, 1, none⟩ = some (.int .u8 (x.k : Int)) := hX.c1
  have y2 : (w.alloc (.cells #[.int .i64 x.a, .int .u8 (x.k : Int), .int .i64 x.w, .int .i64 x.t, .int .i64 x.p, .int .i64 x.c, .int .i64 x.b, .int .i64 x.q, .int .i64 x.v, .int .i64 x.u, .bool x.o, .int .i64 x.e, .int .u64 (x.s : Int)] 26)).cell? ⟨w.heap.size, 2, none⟩ = some (.int .i64 x.w) := hX.c2
  have y3 : (w.alloc (.cells #[.int .i64 x.a, .int .u8 (x.k : Int), .int .i64 x.w, .int .i64 x.t, .int .i64 x.p, .int .i64 x.c, .int .i64 x.b, .int .i64 x.q, .int .i64 x.v, .int .i64 x.u, .bool x.o, .int .i64 x.e, .int .u64 (x.s : Int)] 26)).cell? ⟨w.heap.size, 3, none⟩ = some (.int .i64 x.t) := hX.c3
  have y4 : (w.alloc (.cells #[.int .i64 x.a, .int .u8 (x.k : Int), .int .i64 x.w, .int .i64 x.t, .int .i64 x.p, .int .i64 x.c, .int .i64 x.b, .int .i64 x.q, .int .i64 x.v, .int .i64 x.u, .bool x.o, .int .i64 x.e, .int .u64 (x.s : Int)] 26)).cell? ⟨w.heap.size, 4, none⟩ = some (.int .i64 x.p) := hX.c4
  have y5 : (w.alloc (.cells #[.int .i64 x.a, .int .u8 (x.k : Int), .int .i64 x.w, .int .i64 x.t, .int .i64 x.p, .int .i64 x.c, .int .i64 x.b, .int .i64 x.q, .int .i64 x.v, .int .i64 x.u, .bool x.o, .int .i64 x.e, .int .u64 (x.s : Int)] 26)).cell? ⟨w.heap.size, 5, none⟩ = some (.int .i64 x.c) := hX.c5
  have y6 : (w.alloc (.cells #[.int .i64 x.a, .int .u8 (x.k : Int), .int .i64 x.w, .int .i64 x.t, .int .i64 x.p, .int .i64 x.c, .int .i64 x.b, .int .i64 x.q, .int .i64 x.v, .int .i64 x.u, .bool x.o, .int .i64 x.e, .int .u64 (x.s : Int)] 26)).cell? ⟨w.heap.size, 6, none⟩ = some (.int .i64 x.b) := hX.c6
  have y7 : (w.alloc (.cells #[.int .i64 x.a, .int .u8 (x.k : Int), .int .i64 x.w, .int .i64 x.t, .int .i64 x.p, .int .i64 x.c, .int .i64 x.b, .int .i64 x.q, .int .i64 x.v, .int .i64 x.u, .bool x.o, .int .i64 x.e, .int .u64 (x.s : Int)] 26)).cell? ⟨w.heap.size, 7, none⟩ = some (.int .i64 x.q) := hX.c7
  have y8 : (w.alloc (.cells #[.int .i64 x.a, .int .u8 (x.k : Int), .int .i64 x.w, .int .i64 x.t, .int .i64 x.p, .int .i64 x.c, .int .i64 x.b, .int .i64 x.q, .int .i64 x.v, .int .i64 x.u, .bool x.o, .int .i64 x.e, .int .u64 (x.s : Int)] 26)).cell? ⟨w.heap.size, 8, none⟩ = some (.int .i64 x.v) := hX.c8
  have y9 : (w.alloc (.cells #[.int .i64 x.a, .int .u8 (x.k : Int), .int .i64 x.w, .int .i64 x.t, .int .i64 x.p, .int .i64 x.c, .int .i64 x.b, .int .i64 x.q, .int .i64 x.v, .int .i64 x.u, .bool x.o, .int .i64 x.e, .int .u64 (x.s : Int)] 26)).cell? ⟨w.heap.size, 9, none⟩ = some (.int .i64 x.u) := hX.c9
  have y10 : (w.alloc (.cells #[.int .i64 x.a, .int .u8 (x.k : Int), .int .i64 x.w, .int .i64 x.t, .int .i64 x.p, .int .i64 x.c, .int .i64 x.b, .int .i64 x.q, .int .i64 x.v, .int .i64 x.u, .bool x.o, .int .i64 x.e, .int .u64 (x.s : Int)] 26)).cell? ⟨w.heap.size, 10, none⟩ = some (.bool x.o) := hX.c10
  have y11 : (w.alloc (.cells #[.int .i64 x.a, .int .u8 (x.k : Int), .int .i64 x.w, .int .i64 x.t, .int .i64 x.p, .int .i64 x.c, .int .i64 x.b, .int .i64 x.q, .int .i64 x.v, .int .i64 x.u, .bool x.o, .int .i64 x.e, .int .u64 (x.s : Int)] 26)).cell? ⟨w.heap.size, 11, none⟩ = some (.int .i64 x.e) := hX.c11
  have y12 : (w.alloc (.cells #[.int .i64 x.a, .int .u8 (x.k : Int), .int .i64 x.w, .int .i64 x.t, .int .i64 x.p, .int .i64 x.c, .int .i64 x.b, .int .i64 x.q, .int .i64 x.v, .int .i64 x.u, .bool x.o, .int .i64 x.e, .int .u64 (x.s : Int)] 26)).cell? ⟨w.heap.size, 12, none⟩ = some (.int .u64 (x.s : Int)) := hX.c12
  clear hX hmay
  go_enter Tryd.func8, Tryd.ntmps8
  go_wp2_with fail
  refine hmay2.mono ?_
  rintro e w1 ⟨rfl, hb⟩
  have hB : Below w.heap.size w w1 := below_nx (below1 w _) (hb.below (Nat.le_refl _) (by simp)) (Nat.le_refl _)
  go_wp2_with fail
  go_ret2
  exact ⟨rfl, hB⟩

set_option maxRecDepth 100000 in
set_option maxHeartbeats 12800000 in
theorem rline_yes (x : En) (hx : x.ok) (h : okB x = true) (w : World) (hv : Vars w) :
    Calls Tryd.prog 8 #[.agg #[.int .i64 x.a, .int .u8 (x.k : Int), .int .i64 x.w, .int .i64 x.t, .int .i64 x.p, .int .i64 x.c, .int .i64 x.b, .int .i64 x.q, .int .i64 x.v, .int .i64 x.u, .bool x.o, .int .i64 x.e, .int .u64 (x.s : Int)]] w fun e w' => e = .returned (.tuple #[.string ⟨(lineL x).toArray⟩, .int .i64 0]) ∧ Below w.heap.size w w' := by
  obtain ⟨P, hP⟩ : ∃ P, P = lineL x := ⟨_, rfl⟩
  have hpl : P.length ≤ 100000 := by
    have h1 := line_len hx (namesOf x.k) (lineH x)
    have h2 := lineH_len hx
    have h3 := namesOf_len x.k
    rw [hP]
    unfold lineL
    omega
  have hk := (okB_iff.1 h).1
  have H0 := line_parts x hk
  rw [← hP] at H0 ⊢
  have hmay : Calls Tryd.prog 14 #[.agg #[.int .i64 x.a, .int .u8 (x.k : Int), .int .i64 x.w, .int .i64 x.t, .int .i64 x.p, .int .i64 x.c, .int .i64 x.b, .int .i64 x.q, .int .i64 x.v, .int .i64 x.u, .bool x.o, .int .i64 x.e, .int .u64 (x.s : Int)]] (w.alloc (.cells #[.int .i64 x.a, .int .u8 (x.k : Int), .int .i64 x.w, .int .i64 x.t, .int .i64 x.p, .int .i64 x.c, .int .i64 x.b, .int .i64 x.q, .int .i64 x.v, .int .i64 x.u, .bool x.o, .int .i64 x.e, .int .u64 (x.s : Int)] 26)) fun e' W' => e' = .returned (.bool true) ∧ But [] (w.alloc (.cells #[.int .i64 x.a, .int .u8 (x.k : Int), .int .i64 x.w, .int .i64 x.t, .int .i64 x.p, .int .i64 x.c, .int .i64 x.b, .int .i64 x.q, .int .i64 x.v, .int .i64 x.u, .bool x.o, .int .i64 x.e, .int .u64 (x.s : Int)] 26)) W' := by
    have := rmay_any x hx (w.alloc (.cells #[.int .i64 x.a, .int .u8 (x.k : Int), .int .i64 x.w, .int .i64 x.t, .int .i64 x.p, .int .i64 x.c, .int .i64 x.b, .int .i64 x.q, .int .i64 x.v, .int .i64 x.u, .bool x.o, .int .i64 x.e, .int .u64 (x.s : Int)] 26))
    rw [h] at this
    exact this
  have hof := fun W => rof_any x.k W
  unfold ndV at hof
  have hk256 := hx.k
  have hxs := hx.s
  have hxa := hx.a
  have hps : ∀ p ∈ ten x, I64b p.2 := by
    intro p hp
    simp only [ten, List.mem_cons, List.not_mem_nil, or_false] at hp
    rcases hp with rfl | rfl | rfl | rfl | rfl | rfl | rfl | rfl | rfl | rfl <;> first | exact hx.w | exact hx.t | exact hx.p | exact hx.c | exact hx.b | exact hx.q | exact hx.v | exact hx.u | exact flagI_b _ | exact hx.e
  obtain ⟨ps, hpsv⟩ : ∃ ps, ps = ten x := ⟨_, rfl⟩
  have hlen : ps.length = 10 := by rw [hpsv]; rfl
  rw [← hpsv] at H0 hps
  have HTEN : Hid (ps = [(nWorker x.k, x.w), (nTask x.k, x.t), (nPeer x.k, x.p), (nCh x.k, x.c), (nCase x.k, x.b), (nPeerCase x.k, x.q), (nVal x.k, x.v), (nVal2 x.k, x.u), (nOk x.k, flagI x.o), (nCode x.k, x.e)]) := Lib.hid hpsv
  clear hpsv hk h hP
  have hlw := wordL_len x.k
  have hla := Lib.itoa_length_le x.a hxa.1 hxa.2
  obtain ⟨g0, hg0⟩ : ∃ g, g = nWorker x.k := ⟨_, rfl⟩
  obtain ⟨g1, hg1⟩ : ∃ g, g = nTask x.k := ⟨_, rfl⟩
  obtain ⟨g2, hg2⟩ : ∃ g, g = nPeer x.k := ⟨_, rfl⟩
  obtain ⟨g3, hg3⟩ : ∃ g, g = nCh x.k := ⟨_, rfl⟩
  obtain ⟨g4, hg4⟩ : ∃ g, g = nCase x.k := ⟨_, rfl⟩
  obtain ⟨g5, hg5⟩ : ∃ g, g = nPeerCase x.k := ⟨_, rfl⟩
  obtain ⟨g6, hg6⟩ : ∃ g, g = nVal x.k := ⟨_, rfl⟩
  obtain ⟨g7, hg7⟩ : ∃ g, g = nVal2 x.k := ⟨_, rfl⟩
  obtain ⟨g8, hg8⟩ : ∃ g, g = nOk x.k := ⟨_, rfl⟩
  obtain ⟨g9, hg9⟩ : ∃ g, g = nCode x.k := ⟨_, rfl⟩
  obtain ⟨g10, hg10⟩ : ∃ g, g = nSet x.k := ⟨_, rfl⟩
  rw [← hg0, ← hg1, ← hg2, ← hg3, ← hg4, ← hg5, ← hg6, ← hg7, ← hg8, ← hg9, ← hg10] at hof
  have HTEN := Lib.hid (show ps = [(g0, x.w), (g1, x.t), (g2, x.p), (g3, x.c), (g4, x.b), (g5, x.q), (g6, x.v), (g7, x.u), (g8, flagI x.o), (g9, x.e)] by rw [HTEN.out, hg0, hg1, hg2, hg3, hg4, hg5, hg6, hg7, hg8, hg9])
  rw [← hg10] at H0
  have H0 := Lib.hid H0
  clear hg0 hg1 hg2 hg3 hg4 hg5 hg6 hg7 hg8 hg9 hg10
  obtain ⟨wf, hwf⟩ : ∃ wf, wf = w.alloc (.cells #[.int .i64 x.a, .int .u8 (x.k : Int), .int .i64 x.w, .int .i64 x.t, .int .i64 x.p, .int .i64 x.c, .int .i64 x.b, .int .i64 x.q, .int .i64 x.v, .int .i64 x.u, .bool x.o, .int .i64 x.e, .int .u64 (x.s : Int)] 26) := ⟨_, rfl⟩
  have hB0 : Below w.heap.size w wf := by rw [hwf]; exact below1 w _
  have hX : EnAt wf w.heap.size x := by rw [hwf]; exact enAt_new w x
  have y0 : wf.cell? ⟨w.heap.size, 0, none⟩ = some (.int .i64 x.a) := hX.c0
  have y1 : wf.cell? ⟨w.heap.size, 1, none⟩ = some (.int .u8 (x.k : Int)) := hX.c1
  have y2 : wf.cell? ⟨w.heap.size, 2, none⟩ = some (.int .i64 x.w) := hX.c2
  have y3 : wf.cell? ⟨w.heap.size, 3, none⟩ = some (.int .i64 x.t) := hX.c3
  have y4 : wf.cell? ⟨w.heap.size, 4, none⟩ = some (.int .i64 x.p) := hX.c4
  have y5 : wf.cell? ⟨w.heap.size, 5, none⟩ = some (.int .i64 x.c) := hX.c5
  have y6 : wf.cell? ⟨w.heap.size, 6, none⟩ = some (.int .i64 x.b) := hX.c6
  have y7 : wf.cell? ⟨w.heap.size, 7, none⟩ = some (.int .i64 x.q) := hX.c7
  have y8 : wf.cell? ⟨w.heap.size, 8, none⟩ = some (.int .i64 x.v) := hX.c8
  have y9 : wf.cell? ⟨w.heap.size, 9, none⟩ = some (.int .i64 x.u) := hX.c9
  have y10 : wf.cell? ⟨w.heap.size, 10, none⟩ = some (.bool x.o) := hX.c10
  have y11 : wf.cell? ⟨w.heap.size, 11, none⟩ = some (.int .i64 x.e) := hX.c11
  have y12 : wf.cell? ⟨w.heap.size, 12, none⟩ = some (.int .u64 (x.s : Int)) := hX.c12
  rw [← hwf] at hmay
  rw [hwf] at hmay y0 y1 y2 y3 y4 y5 y6 y7 y8 y9 y10 y11 y12
  go_enter Tryd.func8, Tryd.ntmps8
  go_wp2_with fail
  refine hmay.mono ?_
  rw [← hwf]
  rintro e wm ⟨rfl, hm⟩
  have hXm : EnAt wm w.heap.size x := hX.of_block (hm.block _ hX.lt (by simp))
  have hBm := below_nx hB0 (hm.below (Nat.le_refl _) (by simp)) (Nat.le_refl _)
  have hof1 := hof wm
  clear hmay y0 y1 y2 y3 y4 y5 y6 y7 y8 y9 y10 y11 y12 hX hB0 hm hwf hof
  have y1 : wm.cell? ⟨w.heap.size, 1, none⟩ = some (.int .u8 (x.k : Int)) := hXm.c1
  go_wp2_with fail
  refine hof1.mono ?_
  rintro e wk ⟨rfl, hk⟩
  obtain ⟨w1, hw1⟩ : ∃ w1, w1 = wk.alloc (.cells #[.bool g0, .bool g1, .bool g2, .bool g3, .bool g4, .bool g5, .bool g6, .bool g7, .bool g8, .bool g9, .bool g10] 56) := ⟨_, rfl⟩
  have hb1 : But [] wk w1 := by rw [hw1]; exact (But.refl [] wk).alloc _
  have hbk : Below w.heap.size w w1 := below_nx hBm ((hk.next hb1).below (Nat.le_refl _) (by simp)) (Nat.le_refl _)
  obtain ⟨N, hN⟩ : ∃ N, N = wk.heap.size := ⟨_, rfl⟩
  have hS1 : BSt w w1 N x g0 g1 g2 g3 g4 g5 g6 g7 g8 g9 g10 := ⟨hXm.of_block ((hk.next hb1).block _ hXm.lt (by simp)), by rw [hw1, hN]; exact ndAt_new wk g0 g1 g2 g3 g4 g5 g6 g7 g8 g9 g10, hbk⟩
  have hNn := hS1.n
  have n0 : w1.cell? ⟨N, 0, none⟩ = some (.bool g0) := hNn.c0
  have n1 : w1.cell? ⟨N, 1, none⟩ = some (.bool g1) := hNn.c1
  have n2 : w1.cell? ⟨N, 2, none⟩ = some (.bool g2) := hNn.c2
  have n3 : w1.cell? ⟨N, 3, none⟩ = some (.bool g3) := hNn.c3
  have n4 : w1.cell? ⟨N, 4, none⟩ = some (.bool g4) := hNn.c4
  have n5 : w1.cell? ⟨N, 5, none⟩ = some (.bool g5) := hNn.c5
  have n6 : w1.cell? ⟨N, 6, none⟩ = some (.bool g6) := hNn.c6
  have n7 : w1.cell? ⟨N, 7, none⟩ = some (.bool g7) := hNn.c7
  have n8 : w1.cell? ⟨N, 8, none⟩ = some (.bool g8) := hNn.c8
  have n9 : w1.cell? ⟨N, 9, none⟩ = some (.bool g9) := hNn.c9
  have n10 : w1.cell? ⟨N, 10, none⟩ = some (.bool g10) := hNn.c10
  rw [hN] at n0 n1 n2 n3 n4 n5 n6 n7 n8 n9 n10
  rw [hw1] at n0 n1 n2 n3 n4 n5 n6 n7 n8 n9 n10
  clear hof1 y1 hXm hBm hk hb1 hbk hNn
  obtain ⟨w2, hw2⟩ : ∃ w2, w2 = w1.alloc (.cells #[.bool g0, .bool g1, .bool g2, .bool g3, .bool g4, .bool g5, .bool g6, .bool g7, .bool g8, .bool g9] 4) := ⟨_, rfl⟩
  have hb2 : Below w1.heap.size w1 w2 := by rw [hw2]; exact below1 w1 _
  have hS2 := hS1.next hb2
  have hF2 : FlAt w2 w1.heap.size ps := by
    rw [HTEN.out, hw2]
    exact fl_newG w1 [(g0, x.w), (g1, x.t), (g2, x.p), (g3, x.c), (g4, x.b), (g5, x.q), (g6, x.v), (g7, x.u), (g8, flagI x.o), (g9, x.e)]
  obtain ⟨F, hFn⟩ : ∃ F, F = N + 1 := ⟨_, rfl⟩
  have hsz : w1.heap.size = F := by rw [hw1, hFn, hN]; simp
  rw [hsz] at hF2
  have hkS : ∀ W, Below w2.heap.size w2 W → W.cell? ⟨w.heap.size, 2, none⟩ = some (.int .i64 x.w) ∧ W.cell? ⟨w.heap.size, 3, none⟩ = some (.int .i64 x.t) ∧ W.cell? ⟨w.heap.size, 4, none⟩ = some (.int .i64 x.p) ∧ W.cell? ⟨w.heap.size, 5, none⟩ = some (.int .i64 x.c) ∧ W.cell? ⟨w.heap.size, 6, none⟩ = some (.int .i64 x.b) ∧ W.cell? ⟨w.heap.size, 7, none⟩ = some (.int .i64 x.q) ∧ W.cell? ⟨w.heap.size, 8, none⟩ = some (.int .i64 x.v) ∧ W.cell? ⟨w.heap.size, 9, none⟩ = some (.int .i64 x.u) ∧ W.cell? ⟨w.heap.size, 10, none⟩ = some (.bool x.o) ∧ W.cell? ⟨w.heap.size, 11, none⟩ = some (.int .i64 x.e) ∧ Below w2.heap.size w2 W := fun W hW => by
    have hx1 := (hS2.next hW).x
    exact ⟨hx1.c2, hx1.c3, hx1.c4, hx1.c5, hx1.c6, hx1.c7, hx1.c8, hx1.c9, hx1.c10, hx1.c11, hW⟩
  have cF : ∀ W, Below w2.heap.size w2 W → Calls Tryd.prog 26 #[.bool x.o] W fun e w' => e = .returned (.int .i64 (flagI x.o)) ∧ Below w2.heap.size w2 w' := fun W hW => (rflag_any x.o W).mono fun e w' ⟨h1, h2⟩ => ⟨h1, by rw [h2]; exact hW⟩
  have hD0 : Below w2.heap.size w2 w2.drew := (Below.refl _ _).drew
  go_wp2_with fail
  rw [← hw1, ← hw2, ← hN, ← hFn]
  clear hw1 hw2 hN hFn n0 n1 n2 n3 n4 n5 n6 n7 n8 n9 n10 hS1 hb2
  go_region_held3 (fun w' => w'.cell? ⟨w.heap.size, 2, none⟩ = some (.int .i64 x.w) ∧ w'.cell? ⟨w.heap.size, 3, none⟩ = some (.int .i64 x.t) ∧ w'.cell? ⟨w.heap.size, 4, none⟩ = some (.int .i64 x.p) ∧ w'.cell? ⟨w.heap.size, 5, none⟩ = some (.int .i64 x.c) ∧ w'.cell? ⟨w.heap.size, 6, none⟩ = some (.int .i64 x.b) ∧ w'.cell? ⟨w.heap.size, 7, none⟩ = some (.int .i64 x.q) ∧ w'.cell? ⟨w.heap.size, 8, none⟩ = some (.int .i64 x.v) ∧ w'.cell? ⟨w.heap.size, 9, none⟩ = some (.int .i64 x.u) ∧ w'.cell? ⟨w.heap.size, 10, none⟩ = some (.bool x.o) ∧ w'.cell? ⟨w.heap.size, 11, none⟩ = some (.int .i64 x.e) ∧ Below w2.heap.size w2 w')
    ((refine hkS _ ?_; with_reducible first | exact hD0 | exact hb3 | exact hb3.alloc hb3.size _))
    ((go_at_call 26; (with_reducible refine (cF _ (by assumption)).mono ?_); rintro e w3 ⟨rfl, hb3⟩))
  obtain ⟨w4, hw4⟩ : ∃ w4, w4 = w3.alloc (.cells #[.int .i64 x.w, .int .i64 x.t, .int .i64 x.p, .int .i64 x.c, .int .i64 x.b, .int .i64 x.q, .int .i64 x.v, .int .i64 x.u, .int .i64 (flagI x.o), .int .i64 x.e] 2) := ⟨_, rfl⟩
  have hb34 : Below w3.heap.size w3 w4 := by rw [hw4]; exact below1 w3 _
  have hb24 : Below w2.heap.size w2 w4 := below_nx hb3 hb34 (Nat.le_refl _)
  have hS4 := hS2.next hb24
  have hF4 := hF2.next hb24
  obtain ⟨V, hVn⟩ : ∃ V, V = w3.heap.size := ⟨_, rfl⟩
  have hV4 : VlAt w4 V ps := by rw [HTEN.out, hw4, hVn]; exact vl_newG w3 [(g0, x.w), (g1, x.t), (g2, x.p), (g3, x.c), (g4, x.b), (g5, x.q), (g6, x.v), (g7, x.u), (g8, flagI x.o), (g9, x.e)]
  have cI : ∀ W, Below w4.heap.size w4 W → Calls Tryd.prog 27 #[.int .i64 x.a, .int .i64 10] W fun e w' => e = .returned (.string ⟨(Lib.itoa x.a).toArray⟩) ∧ Below w4.heap.size w4 w' := fun W hW => (fmt_any hxa W (hv.below (hS4.next hW).below)).mono fun e w' ⟨h1, h2⟩ => ⟨h1, below_nx hW h2 (Nat.le_refl _)⟩
  have cW : ∀ W, Below w4.heap.size w4 W → Calls Tryd.prog 17 #[.int .u8 (x.k : Int)] W fun e w' => e = .returned (.string ⟨(wordL x.k).toArray⟩) ∧ Below w4.heap.size w4 w' := fun W hW => (rword_any x.k hk256 W).mono fun e w' ⟨h1, h2⟩ => ⟨h1, below_nx hW h2 (Nat.le_refl _)⟩
  have hkS4 : ∀ W, Below w4.heap.size w4 W → W.cell? ⟨w.heap.size, 0, none⟩ = some (.int .i64 x.a) ∧ W.cell? ⟨w.heap.size, 1, none⟩ = some (.int .u8 (x.k : Int)) ∧ Below w4.heap.size w4 W := fun W hW => by
    have hx1 := (hS4.next hW).x
    exact ⟨hx1.c0, hx1.c1, hW⟩
  have fa : ¬ 9223372036854775807 < (Lib.itoa x.a).length + 1 := by omega
  have fb : ¬ 9223372036854775807 < (Lib.itoa x.a).length + 1 + (wordL x.k).length := by omega
  have hD4 : Below w4.heap.size w4 w4.drew := (Below.refl _ _).drew
  clear cF hkS hD0 hS2 hF2 hb3 hb34 hb24 hsz
  go_wp2_with fail
  rw [← hw4, ← hVn]
  clear hw4 hVn
  go_region_held3 (fun w' => w'.cell? ⟨w.heap.size, 0, none⟩ = some (.int .i64 x.a) ∧ w'.cell? ⟨w.heap.size, 1, none⟩ = some (.int .u8 (x.k : Int)) ∧ Below w4.heap.size w4 w')
    ((refine hkS4 _ ?_; with_reducible first | exact hD4 | exact hb5))
    ((first
      | (go_at_call 27; (with_reducible refine (cI _ (by assumption)).mono ?_); rintro e w5 ⟨rfl, hb5⟩)
      | (go_at_call 17; (with_reducible refine (cW _ (by assumption)).mono ?_); rintro e w5 ⟨rfl, hb5⟩)))
  have hS5 := hS4.next hb5
  have hF5 := hF4.next hb5
  have hV5 := hV4.next hb5
  clear hS4 hF4 hV4 cI cW hkS4 hD4 hb5
  go_wp2_with fail
  rw [str_appB (Lib.itoa x.a) [32], str_appB (Lib.itoa x.a ++ [32]) (wordL x.k)]
  obtain ⟨T0, hT0⟩ : ∃ T0, T0 = Lib.itoa x.a ++ [32] ++ wordL x.k := ⟨_, rfl⟩
  have H1 : Hid (T0 ++ ((ps.drop 0).flatMap pcL ++ ifL g10 (32 :: Lib.decDigits x.s)) = P) := Lib.hid (by rw [hT0, List.drop_zero]; exact H0.out)
  rw [← hT0]
  clear hT0 H0 HTEN fa fb hla hlw
  go_loopw [7, 8] (fun sv iv wr => ∃ (k : Nat) (T : List UInt8), k ≤ 10 ∧ iv = .int .i64 (k : Int) ∧ sv = .string ⟨T.toArray⟩ ∧ BSt w wr N x g0 g1 g2 g3 g4 g5 g6 g7 g8 g9 g10 ∧ FlAt wr F ps ∧ VlAt wr V ps ∧
    Hid (T ++ ((ps.drop k).flatMap pcL ++ ifL g10 (32 :: Lib.decDigits x.s)) = P)) (fun _ iv _ => 10 - (intOf iv).toNat)
  case atStart => exact ⟨0, _, Nat.zero_le _, rfl, rfl, hS5, hF5, hV5, H1⟩
  case round =>
    clear H1 hS5 hF5 hV5
    obtain ⟨k, T, hk, rfl, rfl, hS, hF, hV, HT⟩ := hrel
    by_cases hlt : k < 10
    · have hlt' : (k : Int) < 10 := by omega
      have k0 : (0 : Int) ≤ (k : Int) := by omega
      have hw1 : IntKind.i64.wrap ((k : Int) + 1) = (k : Int) + 1 := by rw [IntKind.wrap_i64]; omega
      obtain ⟨p, hp⟩ : ∃ p, ps[k]? = some p := ⟨_, List.getElem?_eq_getElem (by rw [hlen]; exact hlt)⟩
      have f0 := hF.2 k p hp
      have v0 := hV.2 k p hp
      have hb := hps p (List.mem_of_getElem? hp)
      have HN := put_nextB HT.out hp
      obtain ⟨pg, pv⟩ := p
      simp only at f0 v0 hb
      have hnum := fmt_any hb wr (hv.below hS.below)
      clear hp
      cases pg with
      | false =>
        have HN2 := Lib.hid (show T ++ ((ps.drop (k + 1)).flatMap pcL ++ ifL g10 (32 :: Lib.decDigits x.s)) = P by simpa [pcL, ifL] using HN)
        clear HN HT hnum
        go_wp2_with fail
        go_roundw
        case rel => exact ⟨k + 1, T, by omega, by go_num, rfl, hS, hF, hV, HN2⟩
        case measure => simp [intOf]; omega
      | true =>
        have HN2 : T ++ ([32] ++ (Lib.itoa pv ++ ((ps.drop (k + 1)).flatMap pcL ++ ifL g10 (32 :: Lib.decDigits x.s)))) = P := HN
        have hla := Lib.itoa_length_le pv hb.1 hb.2
        have hfit : ¬ 9223372036854775807 < T.length + 1 := tail_fitB HN2 hpl
        have HN3 := app3B HN2
        have hfit2 : ¬ 9223372036854775807 < T.length + 1 + (Lib.itoa pv).length := by
          have := tail_fitB HN3 hpl
          simpa using this
        have HN4 := Lib.hid (app3B HN3)
        clear HN HT HN2 HN3
        go_wp2_with fail
        refine hnum.mono ?_
        rintro e w6 ⟨rfl, hb6⟩
        have hS6 := hS.next hb6
        have hF6 := hF.next hb6
        have hV6 := hV.next hb6
        clear hnum hb6 hS hF hV f0 v0
        go_wp2_with fail
        rw [str_appB T [32], str_appB (T ++ [32]) (Lib.itoa pv)]
        go_roundw
        case rel => exact ⟨k + 1, _, by omega, by go_num, rfl, hS6, hF6, hV6, HN4⟩
        case measure => simp [intOf]; omega
    have hlt' : ¬ (k : Int) < 10 := by omega
    have HT0 := put_endB HT.out (by omega)
    clear HT hlt hF hV hps hlen
    have m0 : wr.cell? ⟨N, 10, none⟩ = some (.bool g10) := hS.n.c10
    have m1 : wr.cell? ⟨w.heap.size, 12, none⟩ = some (.int .u64 (x.s : Int)) := hS.x.c12
    have hu := fmtU_any hxs wr (hv.below hS.below)
    cases g10 with
    | false =>
      have HF : Hid (T = P) := Lib.hid (by simpa [ifL] using HT0)
      clear HT0 hu
      go_wp2_with fail
      go_ret2
      exact ⟨ret_v (by rw [HF.out]; rfl), hS.below⟩
    | true =>
      have HT1 : T ++ ([32] ++ (Lib.decDigits x.s ++ [])) = P := by rw [List.append_nil]; exact HT0
      have hfit : ¬ 9223372036854775807 < T.length + 1 := tail_fitB HT1 hpl
      have HT2 := app3B HT1
      have hfit2 : ¬ 9223372036854775807 < T.length + 1 + (Lib.decDigits x.s).length := by
        have := tail_fitB HT2 hpl
        simpa using this
      have HF : Hid ((T ++ [32]) ++ Lib.decDigits x.s = P) := Lib.hid (by have := app3B HT2; rwa [List.append_nil] at this)
      have hSb := hS.below
      clear HT0 HT1 HT2 hS
      go_wp2_with fail
      refine hu.mono ?_
      rintro e w6 ⟨rfl, hb6⟩
      have hB6 := below_nx hSb hb6 (Nat.le_refl _)
      go_wp2_with fail
      rw [str_appB T [32], str_appB (T ++ [32]) (Lib.decDigits x.s)]
      go_ret2
      exact ⟨ret_v (by rw [HF.out]; rfl), hB6⟩
theorem rline_any (x : En) (hx : x.ok) (w : World) (hv : Vars w) :
    Calls Tryd.prog 8 #[x.val] w fun e w' => e = .returned (.tuple #[.string ⟨(lineV x).toArray⟩, .int .i64 (checkE x)]) ∧ Below w.heap.size w w' := by
  cases h : okB x with
  | false =>
    rw [show lineV x = [] by unfold lineV; rw [h]; rfl, show checkE x = 2 by unfold checkE; rw [h]; rfl]
    exact rline_no x hx h w
  | true =>
    rw [show lineV x = lineL x by unfold lineV; rw [h]; rfl, show checkE x = 0 by unfold checkE; rw [h]; rfl]
    exact rline_yes x hx h w hv
end Go.Proofs.YtengpehiknoheaaDoor
