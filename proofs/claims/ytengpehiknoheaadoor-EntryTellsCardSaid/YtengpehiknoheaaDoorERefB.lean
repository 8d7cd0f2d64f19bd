/-
  The walks of the document's num and bytes; which bytes these are.
-/
import Derived.Deep.Cut
import Derived.Deep.CutRange
import Derived.Deep.RegionHeld3
import Derived.Test.YtengpehiknoheaaDoorERefN
import Derived.Test.YtengpehiknoheaaDoorEAlive
namespace Go.Proofs.YtengpehiknoheaaDoor
open Go.RowKit Go.Shelf Oct

attribute [local go_sem] Oper.semAt_some

theorem str_appB (l m : List UInt8) : (⟨l.toArray⟩ : ByteArray) ++ ⟨m.toArray⟩ = ⟨(l ++ m).toArray⟩ := ByteArray.mk_append_mk l m
theorem tail_fitB {T x R P : List UInt8} (h : T ++ (x ++ R) = P) (hp : P.length ≤ 100000) : ¬ 9223372036854775807 < T.length + x.length := by
  have := congrArg List.length h
  simp only [List.length_append] at this
  omega
theorem drop_consB {α : Type} {l : List α} {k : Nat} {x : α} (h : l[k]? = some x) : l.drop k = x :: l.drop (k + 1) := by
  obtain ⟨hk, rfl⟩ := List.getElem?_eq_some_iff.1 h
  exact List.drop_eq_getElem_cons hk
/-- One thing more is put. -/
theorem put_nextB {α : Type} {f : α → List UInt8} {l : List α} {k : Nat} {x : α} {T R P : List UInt8} (h : T ++ ((l.drop k).flatMap f ++ R) = P) (hx : l[k]? = some x) : T ++ (f x ++ ((l.drop (k + 1)).flatMap f ++ R)) = P := by
  rw [drop_consB hx, List.flatMap_cons, List.append_assoc] at h
  exact h
theorem put_endB {α : Type} {f : α → List UInt8} {l : List α} {k : Nat} {T R P : List UInt8} (h : T ++ ((l.drop k).flatMap f ++ R) = P) (hk : l.length ≤ k) : T ++ R = P := by
  rw [List.drop_eq_nil_of_le hk] at h
  exact h
theorem app3B {T a R P : List UInt8} (h : T ++ (a ++ R) = P) : (T ++ a) ++ R = P := by rw [List.append_assoc]; exact h

def ifL (g : Bool) (l : List UInt8) : List UInt8 := if g then l else []
/-- What is put for a number, where it is asked for. -/
def pcB (p : Bool × Int) : List UInt8 := ifL p.1 (numL (uns p.2))
def six (x : En) : List (Bool × Int) := [(nWorker x.k, x.w), (nTask x.k, x.t), (nPeer x.k, x.p + 1), (nCh x.k, x.c), (nCase x.k, x.b + 1), (nPeerCase x.k, x.q + 1)]
theorem ok_bounds {x : En} (h : okB x = true) : (0 ≤ x.w ∧ x.w ≤ 254) ∧ (0 ≤ x.t ∧ x.t ≤ 31) ∧ (-1 ≤ x.p ∧ x.p ≤ 31) ∧ (0 ≤ x.c ∧ x.c ≤ 5) ∧ (-1 ≤ x.b ∧ x.b ≤ 7) ∧ (-1 ≤ x.q ∧ x.q ≤ 5) ∧ (0 ≤ x.e ∧ x.e ≤ 143) := by
  obtain ⟨a, k, w, t, p, c, b, q, v, u, o, e, s⟩ := x
  have hk : known k = true := (okB_iff.1 h).1
  rcases known_cases hk with rfl | rfl | rfl | rfl | rfl | rfl | rfl | rfl | rfl | rfl | rfl | rfl | rfl | rfl | rfl | rfl | rfl
  all_goals
    cases o <;> simp [okB, mayAll, known, namesOf, mayStep, mayN, En.get, bareOf, bareStep, En.put, En.only, En.eq, flagI, En.setS] at h <;> simp only <;> omega
theorem enL_parts (x : En) (hx : x.ok) (hk : known x.k = true) : (numL x.a.toNat ++ numL x.k) ++ ((six x).flatMap pcB ++ (ifL (nVal x.k) (numL (foldN x.v)) ++ (ifL (nVal2 x.k) (numL (foldN x.u)) ++ (ifL (nOk x.k) (numL (uns (flagI x.o))) ++ (ifL (nCode x.k) (numL (uns x.e)) ++ ifL (nSet x.k) (numL x.s)))))) = enL x := by
  have hs := uns_sgn x.s hx.s
  obtain ⟨a, k, w, t, p, c, b, q, v, u, o, e, s⟩ := x
  rcases known_cases hk with rfl | rfl | rfl | rfl | rfl | rfl | rfl | rfl | rfl | rfl | rfl | rfl | rfl | rfl | rfl | rfl | rfl
  all_goals simp [enL, bodyL, pairsOf, namesOf, En.get, putN, six, pcB, ifL, nWorker, nTask, nPeer, nCh, nCase, nPeerCase, nVal, nVal2, nOk, nCode, nSet] <;> exact congrArg numL hs.symm

theorem rnumI_any (v : Int) (h0 : 0 ≤ v) (h1 : v ≤ 1000) (w : World) :
    Calls Tryd.prog 52 #[.int .i64 v] w fun e w' => e = .returned (.string ⟨(numL (uns v)).toArray⟩) ∧ Below w.heap.size w w' := by
  obtain ⟨n, rfl⟩ := Int.eq_ofNat_of_zero_le h0
  have hu : IntKind.u64.wrap (n : Int) = (n : Int) := by rw [IntKind.wrap_u64]; omega
  have HU : Hid (uns (n : Int) = n) := Lib.hid (by unfold uns; rw [if_pos h0, Int.toNat_natCast])
  have hn := refNum_any n w (by omega)
  go_enter Tryd.func52, Tryd.ntmps52
  go_wp2_with fail
  refine hn.mono ?_
  rintro e w2 ⟨rfl, hb⟩
  go_wp2_with fail
  go_ret
  exact ⟨ret_v (by rw [HU.out]; rfl), hb⟩

/-- What is the case in bytes' walk. -/
structure BSt (w W : World) (N : Nat) (x : En) (g0 g1 g2 g3 g4 g5 g6 g7 g8 g9 g10 : Bool) : Prop where
  x : EnAt W w.heap.size x
  n : NdAt W N g0 g1 g2 g3 g4 g5 g6 g7 g8 g9 g10
  below : Below w.heap.size w W
section
variable {w W W' : World} {N : Nat} {x : En} {g0 g1 g2 g3 g4 g5 g6 g7 g8 g9 g10 : Bool}
theorem BSt.next (h : BSt w W N x g0 g1 g2 g3 g4 g5 g6 g7 g8 g9 g10) (hb : Below W.heap.size W W') : BSt w W' N  x g0 g1 g2 g3 g4 g5 g6 g7 g8 g9 g10 :=
  ⟨h.x.of_block (hb.block _ h.x.lt), h.n.of_block (hb.block _ h.n.lt), below_nx h.below hb (Nat.le_refl _)⟩
end
/-- The flags, and the numbers, of a row of them. -/
def FlAt (W : World) (F : Nat) (ps : List (Bool × Int)) : Prop := F < W.heap.size ∧ ∀ (k : Nat) (p : Bool × Int), ps[k]? = some p → W.cell? ⟨F, k, none⟩ = some (.bool p.1)
def VlAt (W : World) (F : Nat) (ps : List (Bool × Int)) : Prop := F < W.heap.size ∧ ∀ (k : Nat) (p : Bool × Int), ps[k]? = some p → W.cell? ⟨F, k, none⟩ = some (.int .i64 p.2)
theorem FlAt.next {W W' : World} {F : Nat} {ps : List (Bool × Int)} (h : FlAt W F ps) (hb : Below W.heap.size W W') : FlAt W' F ps := ⟨Nat.lt_of_lt_of_le h.1 hb.size, fun k p hp => (But.of_below hb []).cell (h.2 k p hp) (by simp)⟩
theorem VlAt.next {W W' : World} {F : Nat} {ps : List (Bool × Int)} (h : VlAt W F ps) (hb : Below W.heap.size W W') : VlAt W' F ps := ⟨Nat.lt_of_lt_of_le h.1 hb.size, fun k p hp => (But.of_below hb []).cell (h.2 k p hp) (by simp)⟩
theorem fl_new (W : World) (p0 p1 p2 p3 p4 p5 : Bool × Int) : FlAt (W.alloc (.cells #[.bool p0.1, .bool p1.1, .bool p2.1, .bool p3.1, .bool p4.1, .bool p5.1] 4)) W.heap.size [p0, p1, p2, p3, p4, p5] := by
  refine ⟨by simp, fun k p hp => ?_⟩
  have hk : k < 6 := (List.getElem?_eq_some_iff.1 hp).1
  rcases (by omega : k = 0 ∨ k = 1 ∨ k = 2 ∨ k = 3 ∨ k = 4 ∨ k = 5) with rfl | rfl | rfl | rfl | rfl | rfl
  all_goals
    simp at hp
    subst hp
    simp only [World.cell?, World.alloc_heap_new]
    rfl
theorem vl_new (W : World) (p0 p1 p2 p3 p4 p5 : Bool × Int) : VlAt (W.alloc (.cells #[.int .i64 p0.2, .int .i64 p1.2, .int .i64 p2.2, .int .i64 p3.2, .int .i64 p4.2, .int .i64 p5.2] 3)) W.heap.size [p0, p1, p2, p3, p4, p5] := by
  refine ⟨by simp, fun k p hp => ?_⟩
  have hk : k < 6 := (List.getElem?_eq_some_iff.1 hp).1
  rcases (by omega : k = 0 ∨ k = 1 ∨ k = 2 ∨ k = 3 ∨ k = 4 ∨ k = 5) with rfl | rfl | rfl | rfl | rfl | rfl
  all_goals
    simp at hp
    subst hp
    simp only [World.cell?, World.alloc_heap_new]
    rfl

set_option maxRecDepth 100000 in
set_option maxHeartbeats 6400000 in
theorem rbytes_any (x : En) (hx : x.ok) (h : okB x = true) (w : World) :
    Calls Tryd.prog 31 #[x.val] w fun e w' => e = .returned (.string ⟨(enL x).toArray⟩) ∧ Below w.heap.size w w' := by
  change Calls Tryd.prog 31 #[.agg #[.int .i64 x.a, .int .u8 (x.k : Int), .int .i64 x.w, .int .i64 x.t, .int .i64 x.p, .int .i64 x.c, .int .i64 x.b, .int .i64 x.q, .int .i64 x.v, .int .i64 x.u, .bool x.o, .int .i64 x.e, .int .u64 (x.s : Int)]] w _
  obtain ⟨P, hP⟩ : ∃ P, P = enL x := ⟨_, rfl⟩
  have hpl : P.length ≤ 100000 := by have := enL_len hx h; rw [hP]; omega
  have hk := (okB_iff.1 h).1
  have H0 := enL_parts x hx hk
  rw [← hP] at H0 ⊢
  obtain ⟨⟨l0, m0⟩, ⟨l1, m1⟩, ⟨l2, m2⟩, ⟨l3, m3⟩, ⟨l4, m4⟩, ⟨l5, m5⟩, l6, m6⟩ := ok_bounds h
  have ha0 : 0 ≤ x.a := by unfold okB at h; simp only [Bool.and_eq_true, decide_eq_true_eq] at h; exact h.2.1
  have ha1 := hx.a.2
  have hk256 := hx.k
  have hxs := hx.s
  have hxv := hx.v
  have hxu := hx.u
  obtain ⟨za, hza⟩ : ∃ za : Nat, x.a = (za : Int) := Int.eq_ofNat_of_zero_le ha0
  rw [show x.a.toNat = za by omega] at H0
  have q1 : IntKind.u64.wrap x.a = (za : Int) := by rw [IntKind.wrap_u64, hza]; omega
  have hza64 : za < 9223372036854775808 := by omega
  clear hza
  have hof := rof_any x.k (w.alloc (.cells #[.int .i64 x.a, .int .u8 (x.k : Int), .int .i64 x.w, .int .i64 x.t, .int .i64 x.p, .int .i64 x.c, .int .i64 x.b, .int .i64 x.q, .int .i64 x.v, .int .i64 x.u, .bool x.o, .int .i64 x.e, .int .u64 (x.s : Int)] 26))
  unfold ndV at hof
  have hps : ∀ p ∈ six x, 0 ≤ p.2 ∧ p.2 ≤ 1000 := by
    intro p hp
    simp only [six, List.mem_cons, List.not_mem_nil, or_false] at hp
    rcases hp with rfl | rfl | rfl | rfl | rfl | rfl <;> simp only <;> omega
  obtain ⟨ps, hpsv⟩ : ∃ ps, ps = six x := ⟨_, rfl⟩
  have hlen : ps.length = 6 := by rw [hpsv]; rfl
  rw [← hpsv] at H0 hps
  have HSIX : Hid (ps = [(nWorker x.k, x.w), (nTask x.k, x.t), (nPeer x.k, x.p + 1), (nCh x.k, x.c), (nCase x.k, x.b + 1), (nPeerCase x.k, x.q + 1)]) := Lib.hid hpsv
  clear hpsv hk h hP hx ha0 ha1
  obtain ⟨g0, hg0⟩ : ∃ g, g = nWorker x.k := ⟨_, rfl⟩
  obtain ⟨g1, hg1⟩ : ∃ g, g = nTask x.k := ⟨_, rfl⟩
  obtain ⟨g2, hg2⟩ : ∃ g, g = nPeer x.k := ⟨_, rfl⟩
  obtain ⟨g3, hg3⟩ : ∃ g, g = nCh x.k := ⟨_, rfl⟩
  obtain ⟨g4, hg4⟩ : ∃ g, g = nCase x.k := ⟨_, rfl⟩
  obtain ⟨g5, hg5⟩ : ∃ g, g = nPeerCase x.k := ⟨_, rfl⟩
  obtain ⟨g6, hg6⟩ : ∃ g, g = nVal x.k := ⟨_, rfl⟩
  obtain ⟨g7, hg7⟩ : ∃ g, g = nVal2 x.k := ⟨_, rfl⟩
  obtain ⟨g8, hg8⟩ : ∃ g, g = nOk x.k := ⟨_, rfl⟩
  obtain ⟨g9, hg9⟩ : ∃ g, g = nCode x.k := ⟨_, rfl⟩
  obtain ⟨g10, hg10⟩ : ∃ g, g = nSet x.k := ⟨_, rfl⟩
  rw [← hg0, ← hg1, ← hg2, ← hg3, ← hg4, ← hg5, ← hg6, ← hg7, ← hg8, ← hg9, ← hg10] at hof
  have HSIX := Lib.hid (show ps = [(g0, x.w), (g1, x.t), (g2, x.p + 1), (g3, x.c), (g4, x.b + 1), (g5, x.q + 1)] by rw [HSIX.out, hg0, hg1, hg2, hg3, hg4, hg5])
  rw [← hg6, ← hg7, ← hg8, ← hg9, ← hg10] at H0
  have H0 := Lib.hid H0
  clear hg0 hg1 hg2 hg3 hg4 hg5 hg6 hg7 hg8 hg9 hg10
  obtain ⟨wf, hwf⟩ : ∃ wf, wf = w.alloc (.cells #[.int .i64 x.a, .int .u8 (x.k : Int), .int .i64 x.w, .int .i64 x.t, .int .i64 x.p, .int .i64 x.c, .int .i64 x.b, .int .i64 x.q, .int .i64 x.v, .int .i64 x.u, .bool x.o, .int .i64 x.e, .int .u64 (x.s : Int)] 26) := ⟨_, rfl⟩
  have hB0 : Below w.heap.size w wf := by rw [hwf]; exact below1 w _
  have hX : EnAt wf w.heap.size x := by rw [hwf]; exact enAt_new w x
  have y1 : wf.cell? ⟨w.heap.size, 1, none⟩ = some (.int .u8 (x.k : Int)) := hX.c1
  rw [hwf] at y1
  go_enter Tryd.func31, Tryd.ntmps31
  go_wp2_with fail
  refine hof.mono ?_
  rw [← hwf]
  rintro e wk ⟨rfl, hk⟩
  obtain ⟨w1, hw1⟩ : ∃ w1, w1 = wk.alloc (.cells #[.bool g0, .bool g1, .bool g2, .bool g3, .bool g4, .bool g5, .bool g6, .bool g7, .bool g8, .bool g9, .bool g10] 56) := ⟨_, rfl⟩
  have hb1 : But [] wk w1 := by rw [hw1]; exact (But.refl [] wk).alloc _
  have hbk : Below w.heap.size w w1 := below_nx hB0 ((hk.next hb1).below (Nat.le_refl _) (by simp)) (Nat.le_refl _)
  obtain ⟨N, hN⟩ : ∃ N, N = wk.heap.size := ⟨_, rfl⟩
  have hS1 : BSt w w1 N x g0 g1 g2 g3 g4 g5 g6 g7 g8 g9 g10 := ⟨hX.of_block ((hk.next hb1).block _ hX.lt (by simp)), by rw [hw1, hN]; exact ndAt_new wk g0 g1 g2 g3 g4 g5 g6 g7 g8 g9 g10, hbk⟩
  have cN : ∀ W, Below w1.heap.size w1 W → Calls Tryd.prog 51 #[.int .u64 (za : Int)] W fun e w' => e = .returned (.string ⟨(numL za).toArray⟩) ∧ Below w1.heap.size w1 w' := fun W hW => (refNum_any za W (by omega)).mono fun e w' ⟨h1, h2⟩ => ⟨h1, below_nx hW h2 (Nat.le_refl _)⟩
  have cK : ∀ W, Below w1.heap.size w1 W → Calls Tryd.prog 52 #[.int .i64 (x.k : Int)] W fun e w' => e = .returned (.string ⟨(numL x.k).toArray⟩) ∧ Below w1.heap.size w1 w' := fun W hW => by
    have := rnumI_any (x.k : Int) (by omega) (by omega) W
    rw [show uns (x.k : Int) = x.k by unfold uns; rw [if_pos (by omega), Int.toNat_natCast]] at this
    exact this.mono fun e w' ⟨h1, h2⟩ => ⟨h1, below_nx hW h2 (Nat.le_refl _)⟩
  have hkS : ∀ W, Below w1.heap.size w1 W → W.cell? ⟨w.heap.size, 0, none⟩ = some (.int .i64 x.a) ∧ W.cell? ⟨w.heap.size, 1, none⟩ = some (.int .u8 (x.k : Int)) ∧ Below w1.heap.size w1 W := fun W hW => by
    have hx1 := (hS1.next hW).x
    exact ⟨hx1.c0, hx1.c1, hW⟩
  have q2 : IntKind.i64.wrap (x.k : Int) = (x.k : Int) := by rw [IntKind.wrap_i64]; omega
  have hfit0 : ¬ 9223372036854775807 < (numL za).length + (numL x.k).length := by
    have h1 := numL_le (u := za) (by omega)
    have h2 := numL_le (u := x.k) (by omega)
    omega
  have hD0 : Below w1.heap.size w1 w1.drew := (Below.refl _ _).drew
  clear hB0 hX y1 hk hb1 hbk hwf hof
  go_wp2_with fail
  rw [← hw1, ← hN]
  clear hw1 hN
  go_region_held3 (fun w' => w'.cell? ⟨w.heap.size, 0, none⟩ = some (.int .i64 x.a) ∧ w'.cell? ⟨w.heap.size, 1, none⟩ = some (.int .u8 (x.k : Int)) ∧ Below w1.heap.size w1 w')
    ((refine hkS _ ?_; with_reducible first | exact hD0 | exact hb2 | assumption))
    ((first
      | (go_at_call 51; (with_reducible refine (cN _ (by assumption)).mono ?_); rintro e w2 ⟨rfl, hb2⟩)
      | (go_at_call 52; (with_reducible refine (cK _ (by assumption)).mono ?_); rintro e w2 ⟨rfl, hb2⟩)))
  have hS2 := hS1.next hb2
  clear hS1 hkS cN cK hD0 hb2 q1 q2
  have n0 : w2.cell? ⟨N, 0, none⟩ = some (.bool g0) := hS2.n.c0
  have n1 : w2.cell? ⟨N, 1, none⟩ = some (.bool g1) := hS2.n.c1
  have n2 : w2.cell? ⟨N, 2, none⟩ = some (.bool g2) := hS2.n.c2
  have n3 : w2.cell? ⟨N, 3, none⟩ = some (.bool g3) := hS2.n.c3
  have n4 : w2.cell? ⟨N, 4, none⟩ = some (.bool g4) := hS2.n.c4
  have n5 : w2.cell? ⟨N, 5, none⟩ = some (.bool g5) := hS2.n.c5
  have y2 : (w2.alloc (.cells #[.bool g0, .bool g1, .bool g2, .bool g3, .bool g4, .bool g5] 4)).cell? ⟨w.heap.size, 2, none⟩ = some (.int .i64 x.w) := (hS2.x.alloc _).c2
  have y3 : (w2.alloc (.cells #[.bool g0, .bool g1, .bool g2, .bool g3, .bool g4, .bool g5] 4)).cell? ⟨w.heap.size, 3, none⟩ = some (.int .i64 x.t) := (hS2.x.alloc _).c3
  have y4 : (w2.alloc (.cells #[.bool g0, .bool g1, .bool g2, .bool g3, .bool g4, .bool g5] 4)).cell? ⟨w.heap.size, 4, none⟩ = some (.int .i64 x.p) := (hS2.x.alloc _).c4
  have y5 : (w2.alloc (.cells #[.bool g0, .bool g1, .bool g2, .bool g3, .bool g4, .bool g5] 4)).cell? ⟨w.heap.size, 5, none⟩ = some (.int .i64 x.c) := (hS2.x.alloc _).c5
  have y6 : (w2.alloc (.cells #[.bool g0, .bool g1, .bool g2, .bool g3, .bool g4, .bool g5] 4)).cell? ⟨w.heap.size, 6, none⟩ = some (.int .i64 x.b) := (hS2.x.alloc _).c6
  have y7 : (w2.alloc (.cells #[.bool g0, .bool g1, .bool g2, .bool g3, .bool g4, .bool g5] 4)).cell? ⟨w.heap.size, 7, none⟩ = some (.int .i64 x.q) := (hS2.x.alloc _).c7
  have wrp : IntKind.i64.wrap (x.p + 1) = x.p + 1 := by rw [IntKind.wrap_i64]; omega
  have wrb : IntKind.i64.wrap (x.b + 1) = x.b + 1 := by rw [IntKind.wrap_i64]; omega
  have wrq : IntKind.i64.wrap (x.q + 1) = x.q + 1 := by rw [IntKind.wrap_i64]; omega
  obtain ⟨w3, hw3⟩ : ∃ w3, w3 = (w2.alloc (.cells #[.bool g0, .bool g1, .bool g2, .bool g3, .bool g4, .bool g5] 4)).alloc (.cells #[.int .i64 x.w, .int .i64 x.t, .int .i64 (x.p + 1), .int .i64 x.c, .int .i64 (x.b + 1), .int .i64 (x.q + 1)] 3) := ⟨_, rfl⟩
  have hb3 : Below w2.heap.size w2 w3 := by rw [hw3]; exact below2 w2 _ _
  have hS3 := hS2.next hb3
  have hF : FlAt w3 w2.heap.size ps := by
    rw [HSIX.out, hw3]
    exact (fl_new w2 (g0, x.w) (g1, x.t) (g2, x.p + 1) (g3, x.c) (g4, x.b + 1) (g5, x.q + 1)).next (below1 _ _)
  have hV : VlAt w3 (w2.heap.size + 1) ps := by
    rw [HSIX.out, hw3]
    have := vl_new (w2.alloc (.cells #[.bool g0, .bool g1, .bool g2, .bool g3, .bool g4, .bool g5] 4)) (g0, x.w) (g1, x.t) (g2, x.p + 1) (g3, x.c) (g4, x.b + 1) (g5, x.q + 1)
    rwa [World.size_alloc] at this
  obtain ⟨F, hFn⟩ : ∃ F, F = w2.heap.size := ⟨_, rfl⟩
  rw [← hFn] at hF hV
  go_wp2_with fail
  rw [str_appB (numL za) (numL x.k), ← hw3, ← hFn]
  obtain ⟨T0, hT0⟩ : ∃ T0, T0 = numL za ++ numL x.k := ⟨_, rfl⟩
  have H1 : Hid (T0 ++ ((ps.drop 0).flatMap pcB ++ (ifL g6 (numL (foldN x.v)) ++ (ifL g7 (numL (foldN x.u)) ++ (ifL g8 (numL (uns (flagI x.o))) ++ (ifL g9 (numL (uns x.e)) ++ ifL g10 (numL x.s)))))) = P) := Lib.hid (by rw [hT0, List.drop_zero]; exact H0.out)
  rw [← hT0]
  clear hT0 H0 hw3 hFn hS2 hb3 hfit0 HSIX n0 n1 n2 n3 n4 n5 y2 y3 y4 y5 y6 y7 wrp wrb wrq hza64
  go_loopw [4, 7] (fun sv iv wr => ∃ (k : Nat) (T : List UInt8), k ≤ 6 ∧ iv = .int .i64 (k : Int) ∧ sv = .string ⟨T.toArray⟩ ∧ BSt w wr N x g0 g1 g2 g3 g4 g5 g6 g7 g8 g9 g10 ∧ FlAt wr F ps ∧ VlAt wr (F + 1) ps ∧
    Hid (T ++ ((ps.drop k).flatMap pcB ++ (ifL g6 (numL (foldN x.v)) ++ (ifL g7 (numL (foldN x.u)) ++ (ifL g8 (numL (uns (flagI x.o))) ++ (ifL g9 (numL (uns x.e)) ++ ifL g10 (numL x.s)))))) = P)) (fun _ iv _ => 6 - (intOf iv).toNat)
  case atStart => exact ⟨0, _, Nat.zero_le _, rfl, rfl, hS3, hF, hV, H1⟩
  case round =>
    clear H1 hS3 hF hV
    obtain ⟨k, T, hk, rfl, rfl, hS, hF, hV, HT⟩ := hrel
    by_cases hlt : k < 6
    · have hlt' : (k : Int) < 6 := by omega
      have k0 : (0 : Int) ≤ (k : Int) := by omega
      have hw1 : IntKind.i64.wrap ((k : Int) + 1) = (k : Int) + 1 := by rw [IntKind.wrap_i64]; omega
      obtain ⟨p, hp⟩ : ∃ p, ps[k]? = some p := ⟨_, List.getElem?_eq_getElem (by rw [hlen]; exact hlt)⟩
      have f0 := hF.2 k p hp
      have v0 := hV.2 k p hp
      have hb := hps p (List.mem_of_getElem? hp)
      have HN := put_nextB HT.out hp
      obtain ⟨pg, pv⟩ := p
      simp only at f0 v0 hb
      have hnum := rnumI_any pv hb.1 hb.2 wr
      clear hp
      cases pg with
      | false =>
        have HN2 := Lib.hid (show T ++ ((ps.drop (k + 1)).flatMap pcB ++ (ifL g6 (numL (foldN x.v)) ++ (ifL g7 (numL (foldN x.u)) ++ (ifL g8 (numL (uns (flagI x.o))) ++ (ifL g9 (numL (uns x.e)) ++ ifL g10 (numL x.s)))))) = P by simpa [pcB, ifL] using HN)
        clear HN HT hnum
        go_wp2_with fail
        go_roundw
        case rel => exact ⟨k + 1, T, by omega, by go_num, rfl, hS, hF, hV, HN2⟩
        case measure => simp [intOf]; omega
      | true =>
        have HN2 : T ++ (numL (uns pv) ++ ((ps.drop (k + 1)).flatMap pcB ++ (ifL g6 (numL (foldN x.v)) ++ (ifL g7 (numL (foldN x.u)) ++ (ifL g8 (numL (uns (flagI x.o))) ++ (ifL g9 (numL (uns x.e)) ++ ifL g10 (numL x.s))))))) = P := HN
        have hfit := tail_fitB HN2 hpl
        have HN3 := Lib.hid (app3B HN2)
        clear HN HT HN2
        go_wp2_with fail
        refine hnum.mono ?_
        rintro e w4 ⟨rfl, hb4⟩
        have hS4 := hS.next hb4
        have hF4 := hF.next hb4
        have hV4 := hV.next hb4
        clear hnum hb4 hS hF hV f0 v0
        go_wp2_with fail
        rw [str_appB]
        go_roundw
        case rel => exact ⟨k + 1, _, by omega, by go_num, rfl, hS4, hF4, hV4, HN3⟩
        case measure => simp [intOf]; omega
    have hlt' : ¬ (k : Int) < 6 := by omega
    have HT0 := Lib.hid (put_endB HT.out (by omega))
    clear HT hlt hF hV hps hlen
    have n0 : wr.cell? ⟨N, 6, none⟩ = some (.bool g6) := hS.n.c6
    go_upto_if 67 with fail
    go_cut [4] from 66 to 72 (fun sv W => ∃ T : List UInt8, sv = .string ⟨T.toArray⟩ ∧ BSt w W N x g0 g1 g2 g3 g4 g5 g6 g7 g8 g9 g10 ∧ Hid (T ++ (ifL g7 (numL (foldN x.u)) ++ (ifL g8 (numL (uns (flagI x.o))) ++ (ifL g9 (numL (uns x.e)) ++ ifL g10 (numL x.s)))) = P))
    case first =>
      have HX := HT0.out
      cases g6 with
      | false =>
        have HX2 := Lib.hid (show T ++ (ifL g7 (numL (foldN x.u)) ++ (ifL g8 (numL (uns (flagI x.o))) ++ (ifL g9 (numL (uns x.e)) ++ ifL g10 (numL x.s)))) = P by simpa [ifL] using HX)
        clear HX HT0
        go_wp2_with fail
        go_meet
        exact ⟨T, rfl, hS, HX2⟩
      | true =>
        have HX2 : T ++ (numL (foldN x.v) ++ (ifL g7 (numL (foldN x.u)) ++ (ifL g8 (numL (uns (flagI x.o))) ++ (ifL g9 (numL (uns x.e)) ++ ifL g10 (numL x.s))))) = P := HX
        have hfit := tail_fitB HX2 hpl
        have HX3 := Lib.hid (app3B HX2)
        have y : wr.cell? ⟨w.heap.size, 8, none⟩ = some (.int .i64 x.v) := hS.x.c8
        have hcl := refInt_any x.v wr hxv.1 hxv.2
        clear HX HX2 HT0
        go_wp2_with fail
        refine hcl.mono ?_
        rintro e w6 ⟨rfl, hb6⟩
        have hS6 := hS.next hb6
        clear hcl hb6 hS y
        go_wp2_with fail
        rw [str_appB]
        go_meet
        exact ⟨_, rfl, hS6, HX3⟩
    obtain ⟨T, rfl, hS, HT1⟩ := hcut
    clear HT0 n0
    have n1 : wc.cell? ⟨N, 7, none⟩ = some (.bool g7) := hS.n.c7
    go_upto_if 74 with fail
    go_cut [4] from 73 to 79 (fun sv W => ∃ T : List UInt8, sv = .string ⟨T.toArray⟩ ∧ BSt w W N x g0 g1 g2 g3 g4 g5 g6 g7 g8 g9 g10 ∧ Hid (T ++ (ifL g8 (numL (uns (flagI x.o))) ++ (ifL g9 (numL (uns x.e)) ++ ifL g10 (numL x.s))) = P))
    case first =>
      have HX := HT1.out
      cases g7 with
      | false =>
        have HX2 := Lib.hid (show T ++ (ifL g8 (numL (uns (flagI x.o))) ++ (ifL g9 (numL (uns x.e)) ++ ifL g10 (numL x.s))) = P by simpa [ifL] using HX)
        clear HX HT1
        go_wp2_with fail
        go_meet
        exact ⟨T, rfl, hS, HX2⟩
      | true =>
        have HX2 : T ++ (numL (foldN x.u) ++ (ifL g8 (numL (uns (flagI x.o))) ++ (ifL g9 (numL (uns x.e)) ++ ifL g10 (numL x.s)))) = P := HX
        have hfit := tail_fitB HX2 hpl
        have HX3 := Lib.hid (app3B HX2)
        have y : wc.cell? ⟨w.heap.size, 9, none⟩ = some (.int .i64 x.u) := hS.x.c9
        have hcl := refInt_any x.u wc hxu.1 hxu.2
        clear HX HX2 HT1
        go_wp2_with fail
        refine hcl.mono ?_
        rintro e w6 ⟨rfl, hb6⟩
        have hS6 := hS.next hb6
        clear hcl hb6 hS y
        go_wp2_with fail
        rw [str_appB]
        go_meet
        exact ⟨_, rfl, hS6, HX3⟩
    obtain ⟨T, rfl, hS, HT2⟩ := hcut
    clear HT1 n1
    have n2 : wc.cell? ⟨N, 8, none⟩ = some (.bool g8) := hS.n.c8
    go_upto_if 81 with fail
    go_cut [4] from 80 to 87 (fun sv W => ∃ T : List UInt8, sv = .string ⟨T.toArray⟩ ∧ BSt w W N x g0 g1 g2 g3 g4 g5 g6 g7 g8 g9 g10 ∧ Hid (T ++ (ifL g9 (numL (uns x.e)) ++ ifL g10 (numL x.s)) = P))
    case first =>
      have HX := HT2.out
      cases g8 with
      | false =>
        have HX2 := Lib.hid (show T ++ (ifL g9 (numL (uns x.e)) ++ ifL g10 (numL x.s)) = P by simpa [ifL] using HX)
        clear HX HT2
        go_wp2_with fail
        go_meet
        exact ⟨T, rfl, hS, HX2⟩
      | true =>
        have HX2 : T ++ (numL (uns (flagI x.o)) ++ (ifL g9 (numL (uns x.e)) ++ ifL g10 (numL x.s))) = P := HX
        have hfit := tail_fitB HX2 hpl
        have HX3 := Lib.hid (app3B HX2)
        have y : wc.cell? ⟨w.heap.size, 10, none⟩ = some (.bool x.o) := hS.x.c10
        have hfl := rflag_any x.o wc
        have hcl := rnumI_any (flagI x.o) (by unfold flagI; split <;> omega) (by unfold flagI; split <;> omega) wc
        clear HX HX2 HT2
        go_wp2_with fail
        refine hfl.mono ?_
        rintro e w5 ⟨rfl, rfl⟩
        go_wp2_with fail
        refine hcl.mono ?_
        rintro e w6 ⟨rfl, hb6⟩
        have hS6 := hS.next hb6
        clear hcl hb6 hS y
        go_wp2_with fail
        rw [str_appB]
        go_meet
        exact ⟨_, rfl, hS6, HX3⟩
    obtain ⟨T, rfl, hS, HT3⟩ := hcut
    clear HT2 n2
    have n3 : wc.cell? ⟨N, 9, none⟩ = some (.bool g9) := hS.n.c9
    go_upto_if 89 with fail
    go_cut [4] from 88 to 94 (fun sv W => ∃ T : List UInt8, sv = .string ⟨T.toArray⟩ ∧ BSt w W N x g0 g1 g2 g3 g4 g5 g6 g7 g8 g9 g10 ∧ Hid (T ++ ifL g10 (numL x.s) = P))
    case first =>
      have HX := HT3.out
      cases g9 with
      | false =>
        have HX2 := Lib.hid (show T ++ ifL g10 (numL x.s) = P by simpa [ifL] using HX)
        clear HX HT3
        go_wp2_with fail
        go_meet
        exact ⟨T, rfl, hS, HX2⟩
      | true =>
        have HX2 : T ++ (numL (uns x.e) ++ ifL g10 (numL x.s)) = P := HX
        have hfit := tail_fitB HX2 hpl
        have HX3 := Lib.hid (app3B HX2)
        have y : wc.cell? ⟨w.heap.size, 11, none⟩ = some (.int .i64 x.e) := hS.x.c11
        have hcl := rnumI_any x.e l6 (by omega) wc
        clear HX HX2 HT3
        go_wp2_with fail
        refine hcl.mono ?_
        rintro e w6 ⟨rfl, hb6⟩
        have hS6 := hS.next hb6
        clear hcl hb6 hS y
        go_wp2_with fail
        rw [str_appB]
        go_meet
        exact ⟨_, rfl, hS6, HX3⟩
    obtain ⟨T, rfl, hS, HT4⟩ := hcut
    clear HT3 n3
    have n4 : wc.cell? ⟨N, 10, none⟩ = some (.bool g10) := hS.n.c10
    go_upto_if 96 with fail
    go_cut [4] from 95 to 101 (fun sv W => ∃ T : List UInt8, sv = .string ⟨T.toArray⟩ ∧ BSt w W N x g0 g1 g2 g3 g4 g5 g6 g7 g8 g9 g10 ∧ Hid (T ++ [] = P))
    case first =>
      have HX := (show T ++ (ifL g10 (numL x.s) ++ []) = P by rw [List.append_nil]; exact HT4.out)
      cases g10 with
      | false =>
        have HX2 := Lib.hid (show T ++ [] = P by simpa [ifL] using HX)
        clear HX HT4
        go_wp2_with fail
        go_meet
        exact ⟨T, rfl, hS, HX2⟩
      | true =>
        have HX2 : T ++ (numL x.s ++ []) = P := HX
        have hfit := tail_fitB HX2 hpl
        have HX3 := Lib.hid (app3B HX2)
        have y : wc.cell? ⟨w.heap.size, 12, none⟩ = some (.int .u64 (x.s : Int)) := hS.x.c12
        have hcl := refNum_any x.s wc hxs
        clear HX HX2 HT4
        go_wp2_with fail
        refine hcl.mono ?_
        rintro e w6 ⟨rfl, hb6⟩
        have hS6 := hS.next hb6
        clear hcl hb6 hS y
        go_wp2_with fail
        rw [str_appB]
        go_meet
        exact ⟨_, rfl, hS6, HX3⟩
    obtain ⟨T, rfl, hS, HT5⟩ := hcut
    have HF : Hid (T = P) := Lib.hid (by rw [← HT5.out, List.append_nil])
    clear HT5 HT4 n4
    go_wp2_with fail
    go_ret
    exact ⟨ret_v (by rw [HF.out]; rfl), hS.below⟩
end Go.Proofs.YtengpehiknoheaaDoor
