/-
  The walk of what a doer does.
-/
import Derived.Test.YtplajidagpimdaaHDeeds
namespace Go.Proofs.Ytplajidagpimdaa
open Go.RowKit

theorem Doer.alloc {W : World} {A X T1 T2 M : Nat} (h : Doer W A X T1 T2 M) (o : Obj) : Doer (W.alloc o) A X T1 T2 M := ⟨h.x.alloc o, h.t1.alloc o, h.t2.alloc o, h.m.of_block (Below.heap_alloc _ _ _ h.m.lt)⟩
theorem boxed_ne {W : World} {A B : Nat} {t u : TypeId} {v : Value} {cs : Array Value} (h : Boxed W B t v) (k : Blk W A u cs) (ht : t ≠ u) : B ≠ A := fun e => by
  subst e
  have := h.symm.trans k
  simp only [Option.some.injEq, Obj.cells.injEq] at this
  exact ht this.2.1
theorem Doer.but {W W' : World} {A X T1 T2 M : Nat} (h : Doer W A X T1 T2 M) {f : Fra} (hA : FrAt W A f) (hb : But [A] W W') : Doer W' A X T1 T2 M := by
  refine ⟨hb.boxed h.x ?_, hb.boxed h.t1 ?_, hb.boxed h.t2 ?_, h.m.of_block (hb.block _ h.m.lt ?_)⟩
  · simpa using boxed_ne h.x hA (by decide)
  · simpa using boxed_ne h.t1 hA (by decide)
  · simpa using boxed_ne h.t2 hA (by decide)
  · intro hm
    obtain rfl : M = A := by simpa using hm
    obtain ⟨es, cl, hi⟩ := h.m.is
    have := hi.symm.trans hA
    simp at this
theorem Doer.below {W W' : World} {A X T1 T2 M n : Nat} (h : Doer W A X T1 T2 M) (hb : Below n W W') (hx : X < n) (h1 : T1 < n) (h2 : T2 < n) (hm : M < n) : Doer W' A X T1 T2 M :=
  ⟨(hb.block _ hx).trans h.x, (hb.block _ h1).trans h.t1, (hb.block _ h2).trans h.t2, h.m.of_block (hb.block _ hm)⟩
theorem Doer.later {W W' : World} {A X T1 T2 M : Nat} (h : Doer W A X T1 T2 M) (hb : Below W.heap.size W W') : Doer W' A X T1 T2 M := h.below hb h.x.lt h.t1.lt h.t2.lt h.m.lt

set_option maxRecDepth 100000 in
set_option maxHeartbeats 1600000 in
theorem does_1 {b c k : Int} {n : Nat} (hn : n < 8) {f : Fra} {A X T1 T2 M : Nat} (w : World) (h : Doer w A X T1 T2 M) (hA : FrAt w A f) (hp : 0 ≤ f.p ∧ f.p ≤ 1000000) :
    Calls Try.prog 43 #[.agg #[.int .u8 1, .int .i64 (n : Int), .int .i64 b, .int .i64 c, .int .i64 k], .pointer (some ⟨X, 0, none⟩), .pointer (some ⟨T1, 0, none⟩)] w fun e w' => e = .returned (.tuple #[]) ∧ FrAt w' A ((f.put n k).goto (f.p + 1)) ∧ But [A] w w' := by
  obtain ⟨w1, hw1⟩ : ∃ w1, w1 = (w.alloc (.cells #[.int .u8 1, .int .i64 (n : Int), .int .i64 b, .int .i64 c, .int .i64 k] 33)).alloc (.cells #[.func (.func 53) #[] #[.pointer (some ⟨T2, 0, none⟩)], .func (.func 51) #[] #[]] 86) := ⟨_, rfl⟩
  have hD0 := h.alloc (.cells #[.int .u8 1, .int .i64 (n : Int), .int .i64 b, .int .i64 c, .int .i64 k] 33)
  have hrun : (Instr.lookup 82 (.map (some M)) (.int .u8 1) false).run Try.prog (w.alloc (.cells #[.int .u8 1, .int .i64 (n : Int), .int .i64 b, .int .i64 c, .int .i64 k] 33)) = .ok (.agg #[.func (.func 53) #[] #[.pointer (some ⟨T2, 0, none⟩)], .func (.func 51) #[] #[]]) (w.alloc (.cells #[.int .u8 1, .int .i64 (n : Int), .int .i64 b, .int .i64 c, .int .i64 k] 33)) := hD0.m.look (o := 1) rfl
  have x0 := hD0.x.cell
  have hD1 := hD0.alloc (.cells #[.func (.func 53) #[] #[.pointer (some ⟨T2, 0, none⟩)], .func (.func 51) #[] #[]] 86)
  have hA1 := (hA.alloc (.cells #[.int .u8 1, .int .i64 (n : Int), .int .i64 b, .int .i64 c, .int .i64 k] 33)).alloc (.cells #[.func (.func 53) #[] #[.pointer (some ⟨T2, 0, none⟩)], .func (.func 51) #[] #[]] 86)
  have hP1 : Blk w1 w.heap.size 33 #[.int .u8 1, .int .i64 (n : Int), .int .i64 b, .int .i64 c, .int .i64 k] := by rw [hw1]; exact (blk_new w _ _).alloc _
  have hG1 : Blk w1 (w.heap.size + 1) 86 #[.func (.func 53) #[] #[.pointer (some ⟨T2, 0, none⟩)], .func (.func 51) #[] #[]] := by rw [hw1]; exact blk_at (by simp)
  have hb1 : But [A] w w1 := by rw [hw1]; exact ((But.refl [A] w).alloc _).alloc _
  rw [← hw1] at hD1 hA1
  have hlA : A < w.heap.size := hA.lt
  have hdo := deed_set (x := ⟨1, (n : Int), b, c, k⟩) (f := f) w1 hD1.t2 hA1 rfl hn
  go_enter Try.func43, Try.ntmps43
  go_wp2_with fail
  rw [← hw1]
  clear hw1 hrun x0 hD0
  refine hdo.mono ?_
  rintro e w2 ⟨rfl, hA2, hb12⟩
  have hD2 := hD1.but hA1 hb12
  have hb2 : But [A] w w2 := hb1.next hb12
  have hP2 := but_on hP1 hb12 (by omega)
  have hG2 := but_on hG1 hb12 (by omega)
  have hgo := deed_never ⟨1, (n : Int), b, c, k⟩ w2
  generalize hg : (f.put n k) = g at hA2
  have hgp : g.p = f.p := by rw [← hg]; exact put_p _ _ _
  have HG := Lib.hid hg
  rw [← hgp] at hp
  clear hg
  have y1 := hG2.cell (k := 1) (v := .func (.func 51) #[] #[]) rfl
  have z0 := hP2.cell (k := 0) (v := .int .u8 1) rfl
  have z1 := hP2.cell (k := 1) (v := .int .i64 (n : Int)) rfl
  have z2 := hP2.cell (k := 2) (v := .int .i64 b) rfl
  have z3 := hP2.cell (k := 3) (v := .int .i64 c) rfl
  have z4 := hP2.cell (k := 4) (v := .int .i64 k) rfl
  clear hdo hA1 hD1 hb1 hb12 hP1 hG1
  go_wp2_with fail
  refine hgo.mono ?_
  rintro e w3 ⟨rfl, hb23⟩
  have hA3 := hA2.later hb23 hA2.lt
  have hD3 := hD2.later hb23
  have hb3 : But [A] w w3 := hb2.next (.of_below hb23 _)
  have hP3 := hP2.later hb23 hP2.lt
  have t0 := hD3.t1.cell
  have a1 := hA3.cell (k := 1) (v := .int .i64 g.p) rfl
  have a2 := hA3.frozen 1
  have u4 := hP3.cell (k := 4) (v := .int .i64 k) rfl
  clear hgo hA2 hD2 hb2 hb23 hP2 hG2 y1 z0 z1 z2 z3 z4
  have hw : IntKind.i64.wrap (g.p + 1) = g.p + 1 := by rw [IntKind.wrap_i64]; omega
  go_wp2_with fail
  go_end0
  refine ⟨rfl, ?_, hb3.set (p := ⟨A, 1, none⟩) (.inl (by simp)) _⟩
  rw [HG.out, ← hgp]
  exact fra_goto hA3 _
set_option maxRecDepth 100000 in
set_option maxHeartbeats 1600000 in
theorem does_2 {c k : Int} {n m : Nat} (hn : n < 8) (hm : m < 8) {f : Fra} {A X T1 T2 M : Nat} (w : World) (h : Doer w A X T1 T2 M) (hA : FrAt w A f) (hp : 0 ≤ f.p ∧ f.p ≤ 1000000) :
    Calls Try.prog 43 #[.agg #[.int .u8 2, .int .i64 (n : Int), .int .i64 (m : Int), .int .i64 c, .int .i64 k], .pointer (some ⟨X, 0, none⟩), .pointer (some ⟨T1, 0, none⟩)] w fun e w' => e = .returned (.tuple #[]) ∧ FrAt w' A ((f.put n (wrap64 (f.get n + f.get m))).goto (f.p + 1)) ∧ But [A] w w' := by
  obtain ⟨w1, hw1⟩ : ∃ w1, w1 = (w.alloc (.cells #[.int .u8 2, .int .i64 (n : Int), .int .i64 (m : Int), .int .i64 c, .int .i64 k] 33)).alloc (.cells #[.func (.func 54) #[] #[.pointer (some ⟨T2, 0, none⟩)], .func (.func 51) #[] #[]] 86) := ⟨_, rfl⟩
  have hD0 := h.alloc (.cells #[.int .u8 2, .int .i64 (n : Int), .int .i64 (m : Int), .int .i64 c, .int .i64 k] 33)
  have hrun : (Instr.lookup 82 (.map (some M)) (.int .u8 2) false).run Try.prog (w.alloc (.cells #[.int .u8 2, .int .i64 (n : Int), .int .i64 (m : Int), .int .i64 c, .int .i64 k] 33)) = .ok (.agg #[.func (.func 54) #[] #[.pointer (some ⟨T2, 0, none⟩)], .func (.func 51) #[] #[]]) (w.alloc (.cells #[.int .u8 2, .int .i64 (n : Int), .int .i64 (m : Int), .int .i64 c, .int .i64 k] 33)) := hD0.m.look (o := 2) rfl
  have x0 := hD0.x.cell
  have hD1 := hD0.alloc (.cells #[.func (.func 54) #[] #[.pointer (some ⟨T2, 0, none⟩)], .func (.func 51) #[] #[]] 86)
  have hA1 := (hA.alloc (.cells #[.int .u8 2, .int .i64 (n : Int), .int .i64 (m : Int), .int .i64 c, .int .i64 k] 33)).alloc (.cells #[.func (.func 54) #[] #[.pointer (some ⟨T2, 0, none⟩)], .func (.func 51) #[] #[]] 86)
  have hP1 : Blk w1 w.heap.size 33 #[.int .u8 2, .int .i64 (n : Int), .int .i64 (m : Int), .int .i64 c, .int .i64 k] := by rw [hw1]; exact (blk_new w _ _).alloc _
  have hG1 : Blk w1 (w.heap.size + 1) 86 #[.func (.func 54) #[] #[.pointer (some ⟨T2, 0, none⟩)], .func (.func 51) #[] #[]] := by rw [hw1]; exact blk_at (by simp)
  have hb1 : But [A] w w1 := by rw [hw1]; exact ((But.refl [A] w).alloc _).alloc _
  rw [← hw1] at hD1 hA1
  have hlA : A < w.heap.size := hA.lt
  have hdo := deed_add (x := ⟨2, (n : Int), (m : Int), c, k⟩) (f := f) w1 hD1.t2 hA1 rfl hn rfl hm
  go_enter Try.func43, Try.ntmps43
  go_wp2_with fail
  rw [← hw1]
  clear hw1 hrun x0 hD0
  refine hdo.mono ?_
  rintro e w2 ⟨rfl, hA2, hb12⟩
  have hD2 := hD1.but hA1 hb12
  have hb2 : But [A] w w2 := hb1.next hb12
  have hP2 := but_on hP1 hb12 (by omega)
  have hG2 := but_on hG1 hb12 (by omega)
  have hgo := deed_never ⟨2, (n : Int), (m : Int), c, k⟩ w2
  generalize hg : (f.put n (wrap64 (f.get n + f.get m))) = g at hA2
  have hgp : g.p = f.p := by rw [← hg]; exact put_p _ _ _
  have HG := Lib.hid hg
  rw [← hgp] at hp
  clear hg
  have y1 := hG2.cell (k := 1) (v := .func (.func 51) #[] #[]) rfl
  have z0 := hP2.cell (k := 0) (v := .int .u8 2) rfl
  have z1 := hP2.cell (k := 1) (v := .int .i64 (n : Int)) rfl
  have z2 := hP2.cell (k := 2) (v := .int .i64 (m : Int)) rfl
  have z3 := hP2.cell (k := 3) (v := .int .i64 c) rfl
  have z4 := hP2.cell (k := 4) (v := .int .i64 k) rfl
  clear hdo hA1 hD1 hb1 hb12 hP1 hG1
  go_wp2_with fail
  refine hgo.mono ?_
  rintro e w3 ⟨rfl, hb23⟩
  have hA3 := hA2.later hb23 hA2.lt
  have hD3 := hD2.later hb23
  have hb3 : But [A] w w3 := hb2.next (.of_below hb23 _)
  have hP3 := hP2.later hb23 hP2.lt
  have t0 := hD3.t1.cell
  have a1 := hA3.cell (k := 1) (v := .int .i64 g.p) rfl
  have a2 := hA3.frozen 1
  have u4 := hP3.cell (k := 4) (v := .int .i64 k) rfl
  clear hgo hA2 hD2 hb2 hb23 hP2 hG2 y1 z0 z1 z2 z3 z4
  have hw : IntKind.i64.wrap (g.p + 1) = g.p + 1 := by rw [IntKind.wrap_i64]; omega
  go_wp2_with fail
  go_end0
  refine ⟨rfl, ?_, hb3.set (p := ⟨A, 1, none⟩) (.inl (by simp)) _⟩
  rw [HG.out, ← hgp]
  exact fra_goto hA3 _
set_option maxRecDepth 100000 in
set_option maxHeartbeats 1600000 in
theorem does_3 {a b c k : Int} {f : Fra} {A X T1 T2 M : Nat} (w : World) (h : Doer w A X T1 T2 M) (hA : FrAt w A f) :
    Calls Try.prog 43 #[.agg #[.int .u8 3, .int .i64 a, .int .i64 b, .int .i64 c, .int .i64 k], .pointer (some ⟨X, 0, none⟩), .pointer (some ⟨T1, 0, none⟩)] w fun e w' => e = .returned (.tuple #[]) ∧ FrAt w' A (f.goto k) ∧ But [A] w w' := by
  obtain ⟨w1, hw1⟩ : ∃ w1, w1 = (w.alloc (.cells #[.int .u8 3, .int .i64 a, .int .i64 b, .int .i64 c, .int .i64 k] 33)).alloc (.cells #[.func (.func 50) #[] #[], .func (.func 52) #[] #[]] 86) := ⟨_, rfl⟩
  have hD0 := h.alloc (.cells #[.int .u8 3, .int .i64 a, .int .i64 b, .int .i64 c, .int .i64 k] 33)
  have hrun : (Instr.lookup 82 (.map (some M)) (.int .u8 3) false).run Try.prog (w.alloc (.cells #[.int .u8 3, .int .i64 a, .int .i64 b, .int .i64 c, .int .i64 k] 33)) = .ok (.agg #[.func (.func 50) #[] #[], .func (.func 52) #[] #[]]) (w.alloc (.cells #[.int .u8 3, .int .i64 a, .int .i64 b, .int .i64 c, .int .i64 k] 33)) := hD0.m.look (o := 3) rfl
  have x0 := hD0.x.cell
  have hD1 := hD0.alloc (.cells #[.func (.func 50) #[] #[], .func (.func 52) #[] #[]] 86)
  have hA1 := (hA.alloc (.cells #[.int .u8 3, .int .i64 a, .int .i64 b, .int .i64 c, .int .i64 k] 33)).alloc (.cells #[.func (.func 50) #[] #[], .func (.func 52) #[] #[]] 86)
  have hP1 : Blk w1 w.heap.size 33 #[.int .u8 3, .int .i64 a, .int .i64 b, .int .i64 c, .int .i64 k] := by rw [hw1]; exact (blk_new w _ _).alloc _
  have hG1 : Blk w1 (w.heap.size + 1) 86 #[.func (.func 50) #[] #[], .func (.func 52) #[] #[]] := by rw [hw1]; exact blk_at (by simp)
  have hb1 : But [A] w w1 := by rw [hw1]; exact ((But.refl [A] w).alloc _).alloc _
  rw [← hw1] at hD1 hA1
  have hlA : A < w.heap.size := hA.lt
  have hdo := deed_nothing ⟨3, a, b, c, k⟩ w1
  go_enter Try.func43, Try.ntmps43
  go_wp2_with fail
  rw [← hw1]
  clear hw1 hrun x0 hD0
  refine hdo.mono ?_
  rintro e w2 ⟨rfl, hb12⟩
  have hA2 := hA1.later hb12 hA1.lt
  have hD2 := hD1.later hb12
  have hb2 : But [A] w w2 := hb1.next (.of_below hb12 _)
  have hP2 := hP1.later hb12 hP1.lt
  have hG2 := hG1.later hb12 hG1.lt
  have hgo := deed_always ⟨3, a, b, c, k⟩ w2
  have y1 := hG2.cell (k := 1) (v := .func (.func 52) #[] #[]) rfl
  have z0 := hP2.cell (k := 0) (v := .int .u8 3) rfl
  have z1 := hP2.cell (k := 1) (v := .int .i64 a) rfl
  have z2 := hP2.cell (k := 2) (v := .int .i64 b) rfl
  have z3 := hP2.cell (k := 3) (v := .int .i64 c) rfl
  have z4 := hP2.cell (k := 4) (v := .int .i64 k) rfl
  clear hdo hA1 hD1 hb1 hb12 hP1 hG1
  go_wp2_with fail
  refine hgo.mono ?_
  rintro e w3 ⟨rfl, hb23⟩
  have hA3 := hA2.later hb23 hA2.lt
  have hD3 := hD2.later hb23
  have hb3 : But [A] w w3 := hb2.next (.of_below hb23 _)
  have hP3 := hP2.later hb23 hP2.lt
  have t0 := hD3.t1.cell
  have a1 := hA3.cell (k := 1) (v := .int .i64 f.p) rfl
  have a2 := hA3.frozen 1
  have u4 := hP3.cell (k := 4) (v := .int .i64 k) rfl
  clear hgo hA2 hD2 hb2 hb23 hP2 hG2 y1 z0 z1 z2 z3 z4
  go_wp2_with fail
  go_end0
  exact ⟨rfl, fra_goto hA3 _, hb3.set (p := ⟨A, 1, none⟩) (.inl (by simp)) _⟩
set_option maxRecDepth 100000 in
set_option maxHeartbeats 1600000 in
theorem does_4 {b c k : Int} {n : Nat} (hn : n < 8) {f : Fra} {A X T1 T2 M : Nat} (w : World) (h : Doer w A X T1 T2 M) (hA : FrAt w A f) (hp : 0 ≤ f.p ∧ f.p ≤ 1000000) {G : Int} (HG : Hid (G = if f.get n = 0 then k else f.p + 1)) :
    Calls Try.prog 43 #[.agg #[.int .u8 4, .int .i64 (n : Int), .int .i64 b, .int .i64 c, .int .i64 k], .pointer (some ⟨X, 0, none⟩), .pointer (some ⟨T1, 0, none⟩)] w fun e w' => e = .returned (.tuple #[]) ∧ FrAt w' A (f.goto G) ∧ But [A] w w' := by
  obtain ⟨w1, hw1⟩ : ∃ w1, w1 = (w.alloc (.cells #[.int .u8 4, .int .i64 (n : Int), .int .i64 b, .int .i64 c, .int .i64 k] 33)).alloc (.cells #[.func (.func 50) #[] #[], .func (.func 55) #[] #[.pointer (some ⟨T2, 0, none⟩)]] 86) := ⟨_, rfl⟩
  have hD0 := h.alloc (.cells #[.int .u8 4, .int .i64 (n : Int), .int .i64 b, .int .i64 c, .int .i64 k] 33)
  have hrun : (Instr.lookup 82 (.map (some M)) (.int .u8 4) false).run Try.prog (w.alloc (.cells #[.int .u8 4, .int .i64 (n : Int), .int .i64 b, .int .i64 c, .int .i64 k] 33)) = .ok (.agg #[.func (.func 50) #[] #[], .func (.func 55) #[] #[.pointer (some ⟨T2, 0, none⟩)]]) (w.alloc (.cells #[.int .u8 4, .int .i64 (n : Int), .int .i64 b, .int .i64 c, .int .i64 k] 33)) := hD0.m.look (o := 4) rfl
  have x0 := hD0.x.cell
  have hD1 := hD0.alloc (.cells #[.func (.func 50) #[] #[], .func (.func 55) #[] #[.pointer (some ⟨T2, 0, none⟩)]] 86)
  have hA1 := (hA.alloc (.cells #[.int .u8 4, .int .i64 (n : Int), .int .i64 b, .int .i64 c, .int .i64 k] 33)).alloc (.cells #[.func (.func 50) #[] #[], .func (.func 55) #[] #[.pointer (some ⟨T2, 0, none⟩)]] 86)
  have hP1 : Blk w1 w.heap.size 33 #[.int .u8 4, .int .i64 (n : Int), .int .i64 b, .int .i64 c, .int .i64 k] := by rw [hw1]; exact (blk_new w _ _).alloc _
  have hG1 : Blk w1 (w.heap.size + 1) 86 #[.func (.func 50) #[] #[], .func (.func 55) #[] #[.pointer (some ⟨T2, 0, none⟩)]] := by rw [hw1]; exact blk_at (by simp)
  have hb1 : But [A] w w1 := by rw [hw1]; exact ((But.refl [A] w).alloc _).alloc _
  rw [← hw1] at hD1 hA1
  have hlA : A < w.heap.size := hA.lt
  have hdo := deed_nothing ⟨4, (n : Int), b, c, k⟩ w1
  go_enter Try.func43, Try.ntmps43
  go_wp2_with fail
  rw [← hw1]
  clear hw1 hrun x0 hD0
  refine hdo.mono ?_
  rintro e w2 ⟨rfl, hb12⟩
  have hA2 := hA1.later hb12 hA1.lt
  have hD2 := hD1.later hb12
  have hb2 : But [A] w w2 := hb1.next (.of_below hb12 _)
  have hP2 := hP1.later hb12 hP1.lt
  have hG2 := hG1.later hb12 hG1.lt
  have hgo := deed_zero (x := ⟨4, (n : Int), b, c, k⟩) (f := f) w2 hD2.t2 hA2 rfl hn
  have y1 := hG2.cell (k := 1) (v := .func (.func 55) #[] #[.pointer (some ⟨T2, 0, none⟩)]) rfl
  have z0 := hP2.cell (k := 0) (v := .int .u8 4) rfl
  have z1 := hP2.cell (k := 1) (v := .int .i64 (n : Int)) rfl
  have z2 := hP2.cell (k := 2) (v := .int .i64 b) rfl
  have z3 := hP2.cell (k := 3) (v := .int .i64 c) rfl
  have z4 := hP2.cell (k := 4) (v := .int .i64 k) rfl
  clear hdo hA1 hD1 hb1 hb12 hP1 hG1
  go_wp2_with fail
  refine hgo.mono ?_
  rintro e w3 ⟨rfl, hb23⟩
  have hA3 := hA2.later hb23 hA2.lt
  have hD3 := hD2.later hb23
  have hb3 : But [A] w w3 := hb2.next (.of_below hb23 _)
  have hP3 := hP2.later hb23 hP2.lt
  have t0 := hD3.t1.cell
  have a1 := hA3.cell (k := 1) (v := .int .i64 f.p) rfl
  have a2 := hA3.frozen 1
  have u4 := hP3.cell (k := 4) (v := .int .i64 k) rfl
  clear hgo hA2 hD2 hb2 hb23 hP2 hG2 y1 z0 z1 z2 z3 z4
  by_cases hz : f.get n = 0
  · have hzb : (f.get n == 0) = true := by simpa using hz
    have HE : Hid (G = k) := Lib.hid (HG.out.trans (if_pos hz))
    rw [hzb]
    clear hz
    go_wp2_with fail
    go_end0
    exact ⟨rfl, by rw [HE.out]; exact fra_goto hA3 _, hb3.set (p := ⟨A, 1, none⟩) (.inl (by simp)) _⟩
  · have hzb : (f.get n == 0) = false := by simpa using hz
    have HE : Hid (G = f.p + 1) := Lib.hid (HG.out.trans (if_neg hz))
    have hw : IntKind.i64.wrap (f.p + 1) = f.p + 1 := by rw [IntKind.wrap_i64]; omega
    rw [hzb]
    clear hz
    go_wp2_with fail
    go_end0
    exact ⟨rfl, by rw [HE.out]; exact fra_goto hA3 _, hb3.set (p := ⟨A, 1, none⟩) (.inl (by simp)) _⟩

theorem does_any {x : In} {f : Fra} {A X T1 T2 M : Nat} (w : World) (h : Doer w A X T1 T2 M) (hA : FrAt w A f) (hl : locO x.o = true) (ha : 0 ≤ x.a ∧ x.a < 8) (hb : 0 ≤ x.b ∧ x.b < 8) (hp : 0 ≤ f.p ∧ f.p ≤ 1000000) :
    Calls Try.prog 43 #[.agg #[.int .u8 (x.o : Int), .int .i64 x.a, .int .i64 x.b, .int .i64 x.c, .int .i64 x.k], .pointer (some ⟨X, 0, none⟩), .pointer (some ⟨T1, 0, none⟩)] w fun e w' => e = .returned (.tuple #[]) ∧ FrAt w' A (doF x f) ∧ But [A] w w' := by
  obtain ⟨o, a, b, c, k⟩ := x
  simp only at hl ha hb ⊢
  obtain ⟨n, rfl⟩ : ∃ n : Nat, a = (n : Int) := ⟨a.toNat, by omega⟩
  obtain ⟨m, rfl⟩ : ∃ m : Nat, b = (m : Int) := ⟨b.toNat, by omega⟩
  have hn : n < 8 := by omega
  have hm : m < 8 := by omega
  have := locO_iff.1 hl
  obtain rfl | rfl | rfl | rfl : o = 1 ∨ o = 2 ∨ o = 3 ∨ o = 4 := by omega
  · exact does_1 hn w h hA hp
  · exact does_2 hn hm w h hA hp
  · exact does_3 w h hA
  · exact does_4 hn w h hA hp (Lib.hid rfl)
end Go.Proofs.Ytplajidagpimdaa
