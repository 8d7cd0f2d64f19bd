/-
  The walk of getIns, kind by kind.
-/
import Derived.Test.YtakgcienodigpaaGreatKGetC
namespace Go.Proofs.YtakgcienodigpaaGreat
open Go.RowKit Oct

/-- What getIns stands on: the reader's box, the result's cell, the instruction, which of its fields have bytes. -/
structure GI (w W : World) (pb Bs kb M xb fb : Nat) (s : List UInt8) (o : Int) (a b c k : Int) (p q r t : Bool) : Prop where
  R : Rdr W pb Bs kb M s
  X : Blk W w.heap.size 61 #[F1 pb, F2 pb, F3 kb]
  C : Blk W (w.heap.size + 1) 42 #[.int .u8 0, .int .i64 0, .int .i64 0, .int .i64 0, .int .i64 0]
  I : Blk W xb 42 #[.int .u8 o, .int .i64 a, .int .i64 b, .int .i64 c, .int .i64 k]
  F : Blk W fb 99 #[.bool p, .bool q, .bool r, .bool t]
  N : RBut Bs M w W
  lx : w.heap.size + 1 < xb
section
variable {w W W' : World} {pb Bs kb M xb fb : Nat} {s : List UInt8} {o a b c k : Int} {p q r t : Bool}
theorem GI.over (h : GI w W pb Bs kb M xb fb s o a b c k p q r t) {s' : List UInt8} (hb : RBut Bs M W W') (hR : Rdr W' pb Bs kb M s') : GI w W' pb Bs kb M xb fb s' o a b c k p q r t :=
  ⟨hR, h.X.over h.R (by decide) hb, h.C.over h.R (by decide) hb, h.I.over h.R (by decide) hb, h.F.over h.R (by decide) hb, h.N.next hb, h.lx⟩
theorem GI.put (h : GI w W pb Bs kb M xb fb s o a b c k p q r t) {o' a' b' c' k' : Int} (hb : But [xb] W W') (hI : Blk W' xb 42 #[.int .u8 o', .int .i64 a', .int .i64 b', .int .i64 c', .int .i64 k']) : GI w W' pb Bs kb M xb fb s o' a' b' c' k' p q r t :=
  ⟨h.R.beside h.I (by decide) hb, (hb.block _ h.X.lt (by have := h.lx; simp; omega)).trans h.X, (hb.block _ h.C.lt (by have := h.lx; simp; omega)).trans h.C, hI, (hb.block _ h.F.lt (by simp; exact blk_ne h.F h.I (by decide))).trans h.F, rbut_own h.N hb (by have := h.lx; omega), h.lx⟩
theorem GI.cells (h : GI w W pb Bs kb M xb fb s o a b c k p q r t) :
    (W.cell? ⟨w.heap.size, 0, none⟩ = some (F1 pb) ∧ W.cell? ⟨w.heap.size, 1, none⟩ = some (F2 pb) ∧ W.cell? ⟨w.heap.size, 2, none⟩ = some (F3 kb)) ∧
    (W.cell? ⟨xb, 0, none⟩ = some (.int .u8 o) ∧ W.cell? ⟨xb, 1, none⟩ = some (.int .i64 a) ∧ W.cell? ⟨xb, 2, none⟩ = some (.int .i64 b) ∧ W.cell? ⟨xb, 3, none⟩ = some (.int .i64 c) ∧ W.cell? ⟨xb, 4, none⟩ = some (.int .i64 k)) ∧
    (W.cell? ⟨fb, 0, none⟩ = some (.bool p) ∧ W.cell? ⟨fb, 1, none⟩ = some (.bool q) ∧ W.cell? ⟨fb, 2, none⟩ = some (.bool r) ∧ W.cell? ⟨fb, 3, none⟩ = some (.bool t)) ∧
    (W.frozen? ⟨xb, 1, none⟩ = false ∧ W.frozen? ⟨xb, 2, none⟩ = false ∧ W.frozen? ⟨xb, 3, none⟩ = false ∧ W.frozen? ⟨xb, 4, none⟩ = false) :=
  ⟨⟨h.X.cell rfl, h.X.cell rfl, h.X.cell rfl⟩, ⟨h.I.cell rfl, h.I.cell rfl, h.I.cell rfl, h.I.cell rfl, h.I.cell rfl⟩, ⟨h.F.cell rfl, h.F.cell rfl, h.F.cell rfl, h.F.cell rfl⟩, h.I.frozen 1, h.I.frozen 2, h.I.frozen 3, h.I.frozen 4⟩
theorem GI.res (h : GI w W pb Bs kb M xb fb s o a b c k p q r t) :
    (W.cell? ⟨w.heap.size + 1, 0, none⟩ = some (.int .u8 0) ∧ W.cell? ⟨w.heap.size + 1, 1, none⟩ = some (.int .i64 0) ∧ W.cell? ⟨w.heap.size + 1, 2, none⟩ = some (.int .i64 0) ∧ W.cell? ⟨w.heap.size + 1, 3, none⟩ = some (.int .i64 0) ∧ W.cell? ⟨w.heap.size + 1, 4, none⟩ = some (.int .i64 0)) ∧
    (W.frozen? ⟨w.heap.size + 1, 0, none⟩ = false ∧ W.frozen? ⟨w.heap.size + 1, 1, none⟩ = false ∧ W.frozen? ⟨w.heap.size + 1, 2, none⟩ = false ∧ W.frozen? ⟨w.heap.size + 1, 3, none⟩ = false ∧ W.frozen? ⟨w.heap.size + 1, 4, none⟩ = false) :=
  ⟨⟨h.C.cell rfl, h.C.cell rfl, h.C.cell rfl, h.C.cell rfl, h.C.cell rfl⟩, h.C.frozen 0, h.C.frozen 1, h.C.frozen 2, h.C.frozen 3, h.C.frozen 4⟩
theorem Rdr.named (h : Rdr W pb Bs kb M s) (hb : But [M] W W') (hn : Nmr W' kb M) : Rdr W' pb Bs kb M s := by
  have n1 := map_apart h.nm h.pp
  have n2 := map_apart h.nm h.st
  exact ⟨(hb.block pb h.pp.lt (by simpa using n1)).trans h.pp, (hb.block Bs h.st.lt (by simpa using n2)).trans h.st, hn, h.sz⟩
theorem Blk.named {B : Nat} {u : TypeId} {cs : Array Value} (h : Blk W B u cs) (hn : Nmr W kb M) (hb : But [M] W W') : Blk W' B u cs := (hb.block B h.lt (by simpa using map_apart hn h)).trans h
/-- The result, stored whole. -/
theorem GI.done (h : GI w W pb Bs kb M xb fb s o a b c k p q r t) :
    ∃ W', W' = (((((W.setCell ⟨w.heap.size + 1, 0, none⟩ (.int .u8 o)).setCell ⟨w.heap.size + 1, 1, none⟩ (.int .i64 a)).setCell ⟨w.heap.size + 1, 2, none⟩ (.int .i64 b)).setCell ⟨w.heap.size + 1, 3, none⟩ (.int .i64 c)).setCell ⟨w.heap.size + 1, 4, none⟩ (.int .i64 k)) ∧
      W'.cell? ⟨w.heap.size + 1, 0, none⟩ = some (.int .u8 o) ∧ W'.cell? ⟨w.heap.size + 1, 1, none⟩ = some (.int .i64 a) ∧ W'.cell? ⟨w.heap.size + 1, 2, none⟩ = some (.int .i64 b) ∧ W'.cell? ⟨w.heap.size + 1, 3, none⟩ = some (.int .i64 c) ∧ W'.cell? ⟨w.heap.size + 1, 4, none⟩ = some (.int .i64 k) ∧ Rdr W' pb Bs kb M s ∧ RBut Bs M w W' := by
  obtain ⟨h1, h2⟩ := blk_set5 h.C (.int .u8 o) (.int .i64 a) (.int .i64 b) (.int .i64 c) (.int .i64 k)
  exact ⟨_, rfl, h1.cell rfl, h1.cell rfl, h1.cell rfl, h1.cell rfl, h1.cell rfl, h.R.beside h.C (by decide) h2, rbut_own h.N h2 (by omega)⟩
end
/-- What is read is an instruction that Go's numbers have. -/
def insRes (_ : World) (v : Value) (x : In) : Prop := v = .agg #[.int .u8 (x.o : Int), .int .i64 x.a, .int .i64 x.b, .int .i64 x.c, .int .i64 x.k]

set_option maxRecDepth 100000 in
set_option maxHeartbeats 1600000 in
theorem getIns0 (pb Bs kb M : Nat) (s s0 : List UInt8) (w : World) (h : Rdr w pb Bs kb M s) (ho : Hid (rdN 10 s = some (0, s0))) :
    Calls Tryz.prog 65 #[.agg #[F1 pb, F2 pb, F3 kb]] w (GetPost w pb Bs kb M insRes (rdIns 7 s)) := by
  obtain ⟨wf, hwf⟩ : ∃ wf, wf = (w.alloc (.cells #[F1 pb, F2 pb, F3 kb] 61)).alloc (.cells #[.int .u8 0, .int .i64 0, .int .i64 0, .int .i64 0, .int .i64 0] 42) := ⟨_, rfl⟩
  have hB0 : Below w.heap.size w wf := by rw [hwf]; exact below2 w _ _
  have hsf : wf.heap.size = w.heap.size + 1 + 1 := by rw [hwf]; simp
  have hR0 := h.later hB0 (Nat.le_refl _)
  have hX0 : Blk wf w.heap.size 61 #[F1 pb, F2 pb, F3 kb] := by rw [hwf]; exact (blk_new w _ _).alloc _
  have hC0 : Blk wf (w.heap.size + 1) 42 #[.int .u8 0, .int .i64 0, .int .i64 0, .int .i64 0, .int .i64 0] := by rw [hwf]; exact blk_at (World.size_alloc _ _).symm
  have hN0 : RBut Bs M w wf := But.of_below hB0 _
  have c0 := hX0.cell (k := 0) (v := F1 pb) rfl
  have hc := get_ok (number_any 10 pb Bs kb M s (by omega) _ hR0) ho.out
  go_enter Tryz.func65, Tryz.ntmps65
  go_wp2_with fail
  rw [← hwf]
  clear hwf
  refine hc.mono ?_
  rintro e w1 ⟨v, rfl, rfl, hb, hR1⟩
  have hX1 := hX0.over hR0 (by decide) hb
  have hC1 := hC0.over hR0 (by decide) hb
  have hN1 := hN0.next hb
  have hs1 := hb.size
  clear hc hB0 hR0 hX0 hC0 hN0 c0 hb
  obtain ⟨w2, hw2⟩ : ∃ w2, w2 = w1.alloc (.cells #[.int .u8 0, .int .i64 0, .int .i64 0, .int .i64 0, .int .i64 0] 42) := ⟨_, rfl⟩
  have hI2 : Blk w2 w1.heap.size 42 #[.int .u8 0, .int .i64 0, .int .i64 0, .int .i64 0, .int .i64 0] := by rw [hw2]; exact blk_new w1 _ _
  have hB2 : Below w1.heap.size w1 w2 := by rw [hw2]; exact (Below.refl _ w1).alloc (Nat.le_refl _) _
  have hR2 := hR1.later hB2 (Nat.le_refl _)
  have hX2 := hX1.later hB2 hX1.lt
  have hC2 := hC1.later hB2 hC1.lt
  have hN2 : RBut Bs M w w2 := hN1.next (But.of_below hB2 _)
  have d2 := hX2.cell (k := 2) (v := F3 kb) rfl
  have d0 := hI2.cell (k := 0) (v := .int .u8 0) rfl
  have hn : Calls Tryz.prog 75 #[.int .u8 0, .pointer (some ⟨kb, 0, none⟩)] w2 fun e w' => e = .returned (.agg #[.bool false, .bool false, .bool false, .bool false]) ∧ But [M] w2 w' ∧ Nmr w' kb M := named_op 0 kb M (by omega) w2 hR2.nm
  rw [hw2] at d0 d2
  clear hB2 hX1 hC1 hN1
  go_wp2_with fail
  rw [← hw2]
  clear hw2
  refine hn.mono ?_
  rintro e w3 ⟨rfl, hb3, hn3⟩
  obtain ⟨w4, hw4⟩ : ∃ w4, w4 = w3.alloc (.cells #[.bool false, .bool false, .bool false, .bool false] 99) := ⟨_, rfl⟩
  have hB4 : Below w3.heap.size w3 w4 := by rw [hw4]; exact (Below.refl _ w3).alloc (Nat.le_refl _) _
  have hF4 : Blk w4 w3.heap.size 99 #[.bool false, .bool false, .bool false, .bool false] := by rw [hw4]; exact blk_new w3 _ _
  have hG : GI w w4 pb Bs kb M w1.heap.size w3.heap.size s0 (0 : Int) 0 0 0 0 false false false false :=
    ⟨(hR2.named hb3 hn3).later hB4 (Nat.le_refl _), (hX2.named hR2.nm hb3).later hB4 (hX2.named hR2.nm hb3).lt, (hC2.named hR2.nm hb3).later hB4 (hC2.named hR2.nm hb3).lt, (hI2.named hR2.nm hb3).later hB4 (hI2.named hR2.nm hb3).lt, hF4, (hN2.next (hb3.mono (by simp))).next (But.of_below hB4 _), by omega⟩
  obtain ⟨⟨c0, c1, c2⟩, ⟨c3, c4, c5, c6, c7⟩, ⟨c8, c9, c10, c11⟩, c12, c13, c14, c15⟩ := hG.cells
  rw [hw4] at c0 c1 c2 c3 c4 c5 c6 c7 c8 c9 c10 c11 c12 c13 c14 c15
  clear hn hR2 hX2 hC2 hI2 hN2 hb3 hn3 hB4 hF4 hR1 d0 d2
  have HO : Hid (rdIns 7 s = some (⟨0, 0, 0, 0, 0⟩, s0)) := Lib.hid (by simp [rdIns, rdOpt, fldA, fldB, fldC, fldK, namesOf, ho.out])
  obtain ⟨⟨r0, r1, r2, r3, r4⟩, z0, z1, z2, z3, z4⟩ := hG.res
  obtain ⟨W', hW', q0, q1, q2, q3, q4, hR5, hN5⟩ := hG.done
  subst hW'
  rw [hw4] at r0 r1 r2 r3 r4 z0 z1 z2 z3 z4 q0 q1 q2 q3 q4 hR5 hN5
  clear hG hw4
  go_wp2_with fail
  refine bodyPost_ret (v := .agg #[.int .u8 0, .int .i64 0, .int .i64 0, .int .i64 0, .int .i64 0]) (by simp [results, Tryz.f65, go_sem, q0, q1, q2, q3, q4]) rfl ?_
  exact post_ok HO.out rfl hN5 hR5

set_option maxRecDepth 100000 in
set_option maxHeartbeats 1600000 in
theorem getIns1 (pb Bs kb M : Nat) (s s0 : List UInt8) (w : World) (h : Rdr w pb Bs kb M s) (ho : Hid (rdN 10 s = some (1, s0))) :
    Calls Tryz.prog 65 #[.agg #[F1 pb, F2 pb, F3 kb]] w (GetPost w pb Bs kb M insRes (rdIns 7 s)) := by
  obtain ⟨wf, hwf⟩ : ∃ wf, wf = (w.alloc (.cells #[F1 pb, F2 pb, F3 kb] 61)).alloc (.cells #[.int .u8 0, .int .i64 0, .int .i64 0, .int .i64 0, .int .i64 0] 42) := ⟨_, rfl⟩
  have hB0 : Below w.heap.size w wf := by rw [hwf]; exact below2 w _ _
  have hsf : wf.heap.size = w.heap.size + 1 + 1 := by rw [hwf]; simp
  have hR0 := h.later hB0 (Nat.le_refl _)
  have hX0 : Blk wf w.heap.size 61 #[F1 pb, F2 pb, F3 kb] := by rw [hwf]; exact (blk_new w _ _).alloc _
  have hC0 : Blk wf (w.heap.size + 1) 42 #[.int .u8 0, .int .i64 0, .int .i64 0, .int .i64 0, .int .i64 0] := by rw [hwf]; exact blk_at (World.size_alloc _ _).symm
  have hN0 : RBut Bs M w wf := But.of_below hB0 _
  have c0 := hX0.cell (k := 0) (v := F1 pb) rfl
  have hc := get_ok (number_any 10 pb Bs kb M s (by omega) _ hR0) ho.out
  go_enter Tryz.func65, Tryz.ntmps65
  go_wp2_with fail
  rw [← hwf]
  clear hwf
  refine hc.mono ?_
  rintro e w1 ⟨v, rfl, rfl, hb, hR1⟩
  have hX1 := hX0.over hR0 (by decide) hb
  have hC1 := hC0.over hR0 (by decide) hb
  have hN1 := hN0.next hb
  have hs1 := hb.size
  clear hc hB0 hR0 hX0 hC0 hN0 c0 hb
  obtain ⟨w2, hw2⟩ : ∃ w2, w2 = w1.alloc (.cells #[.int .u8 1, .int .i64 0, .int .i64 0, .int .i64 0, .int .i64 0] 42) := ⟨_, rfl⟩
  have hI2 : Blk w2 w1.heap.size 42 #[.int .u8 1, .int .i64 0, .int .i64 0, .int .i64 0, .int .i64 0] := by rw [hw2]; exact blk_new w1 _ _
  have hB2 : Below w1.heap.size w1 w2 := by rw [hw2]; exact (Below.refl _ w1).alloc (Nat.le_refl _) _
  have hR2 := hR1.later hB2 (Nat.le_refl _)
  have hX2 := hX1.later hB2 hX1.lt
  have hC2 := hC1.later hB2 hC1.lt
  have hN2 : RBut Bs M w w2 := hN1.next (But.of_below hB2 _)
  have d2 := hX2.cell (k := 2) (v := F3 kb) rfl
  have d0 := hI2.cell (k := 0) (v := .int .u8 1) rfl
  have hn : Calls Tryz.prog 75 #[.int .u8 1, .pointer (some ⟨kb, 0, none⟩)] w2 fun e w' => e = .returned (.agg #[.bool true, .bool false, .bool false, .bool true]) ∧ But [M] w2 w' ∧ Nmr w' kb M := named_op 1 kb M (by omega) w2 hR2.nm
  rw [hw2] at d0 d2
  clear hB2 hX1 hC1 hN1
  go_wp2_with fail
  rw [← hw2]
  clear hw2
  refine hn.mono ?_
  rintro e w3 ⟨rfl, hb3, hn3⟩
  obtain ⟨w4, hw4⟩ : ∃ w4, w4 = w3.alloc (.cells #[.bool true, .bool false, .bool false, .bool true] 99) := ⟨_, rfl⟩
  have hB4 : Below w3.heap.size w3 w4 := by rw [hw4]; exact (Below.refl _ w3).alloc (Nat.le_refl _) _
  have hF4 : Blk w4 w3.heap.size 99 #[.bool true, .bool false, .bool false, .bool true] := by rw [hw4]; exact blk_new w3 _ _
  have hG : GI w w4 pb Bs kb M w1.heap.size w3.heap.size s0 (1 : Int) 0 0 0 0 true false false true :=
    ⟨(hR2.named hb3 hn3).later hB4 (Nat.le_refl _), (hX2.named hR2.nm hb3).later hB4 (hX2.named hR2.nm hb3).lt, (hC2.named hR2.nm hb3).later hB4 (hC2.named hR2.nm hb3).lt, (hI2.named hR2.nm hb3).later hB4 (hI2.named hR2.nm hb3).lt, hF4, (hN2.next (hb3.mono (by simp))).next (But.of_below hB4 _), by omega⟩
  obtain ⟨⟨c0, c1, c2⟩, ⟨c3, c4, c5, c6, c7⟩, ⟨c8, c9, c10, c11⟩, c12, c13, c14, c15⟩ := hG.cells
  rw [hw4] at c0 c1 c2 c3 c4 c5 c6 c7 c8 c9 c10 c11 c12 c13 c14 c15
  clear hn hR2 hX2 hC2 hI2 hN2 hb3 hn3 hB4 hF4 hR1 d0 d2
  have hcall := getRegister_any pb Bs kb M s0 _ hG.R
  cases hr : rdZ 7 s0 with
  | none =>
    have hc := get_bad hcall hr
    have HO : Hid (rdIns 7 s = none) := Lib.hid (by simp [rdIns, rdOpt, fldA, fldB, fldC, fldK, namesOf, ho.out, hr])
    clear hr hcall
    go_wp2_with fail
    rw [← hw4]
    refine hc.mono ?_
    rintro e wz ⟨rfl, hb, s', hS⟩
    exact ⟨rfl, post_bad HO.out (hG.N.next hb) hS⟩
  | some qq =>
  obtain ⟨a, s1⟩ := qq
  have hc := get_ok hcall hr
  have p0 := Lib.hid hr
  clear hr hcall
  go_wp2_with fail
  rw [← hw4]
  clear hw4
  refine hc.mono ?_
  rintro e x1 ⟨v, rfl, rfl, hb, hR⟩
  replace hG := hG.over hb hR
  clear c0 c1 c2 c3 c4 c5 c6 c7 c8 c9 c10 c11 c12 c13 c14 c15
  obtain ⟨⟨c0, c1, c2⟩, ⟨c3, c4, c5, c6, c7⟩, ⟨c8, c9, c10, c11⟩, c12, c13, c14, c15⟩ := hG.cells
  have hG' : GI w (x1.setCell ⟨w1.heap.size, 1, none⟩ (.int .i64 a)) pb Bs kb M w1.heap.size w3.heap.size s1 (1 : Int) a 0 0 0 true false false true := hG.put But.cellset (hG.I.set 1 (.int .i64 a))
  obtain ⟨⟨e0, e1, e2⟩, ⟨e3, e4, e5, e6, e7⟩, ⟨e8, e9, e10, e11⟩, e12, e13, e14, e15⟩ := hG'.cells
  clear hc hR hb
  clear hG
  have hG := hG'
  clear hG'
  have hcall := signed_any pb Bs kb M s1 _ hG.R
  cases hr : rdI s1 with
  | none =>
    have hc := get_bad hcall hr
    have HO : Hid (rdIns 7 s = none) := Lib.hid (by simp [rdIns, rdOpt, fldA, fldB, fldC, fldK, namesOf, ho.out, p0.out, hr])
    clear hr hcall
    go_wp2_with fail
    refine hc.mono ?_
    rintro e wz ⟨rfl, hb, s', hS⟩
    exact ⟨rfl, post_bad HO.out (hG.N.next hb) hS⟩
  | some qq =>
  obtain ⟨k, s2⟩ := qq
  have hc := get_ok hcall hr
  have p1 := Lib.hid hr
  clear hr hcall
  go_wp2_with fail
  refine hc.mono ?_
  rintro e x2 ⟨v, rfl, rfl, hb, hR⟩
  replace hG := hG.over hb hR
  clear c0 c1 c2 c3 c4 c5 c6 c7 c8 c9 c10 c11 c12 c13 c14 c15
  obtain ⟨⟨c0, c1, c2⟩, ⟨c3, c4, c5, c6, c7⟩, ⟨c8, c9, c10, c11⟩, c12, c13, c14, c15⟩ := hG.cells
  have hG' : GI w (x2.setCell ⟨w1.heap.size, 4, none⟩ (.int .i64 k)) pb Bs kb M w1.heap.size w3.heap.size s2 (1 : Int) a 0 0 k true false false true := hG.put But.cellset (hG.I.set 4 (.int .i64 k))
  obtain ⟨⟨e0, e1, e2⟩, ⟨e3, e4, e5, e6, e7⟩, ⟨e8, e9, e10, e11⟩, e12, e13, e14, e15⟩ := hG'.cells
  clear hc hR hb
  clear hG
  have hG := hG'
  clear hG'
  have HO : Hid (rdIns 7 s = some (⟨1, a, 0, 0, k⟩, s2)) := Lib.hid (by simp [rdIns, rdOpt, fldA, fldB, fldC, fldK, namesOf, ho.out, p0.out, p1.out])
  obtain ⟨⟨r0, r1, r2, r3, r4⟩, z0, z1, z2, z3, z4⟩ := hG.res
  obtain ⟨W', hW', q0, q1, q2, q3, q4, hR5, hN5⟩ := hG.done
  subst hW'
  clear hG
  go_wp2_with fail
  refine bodyPost_ret (v := .agg #[.int .u8 1, .int .i64 a, .int .i64 0, .int .i64 0, .int .i64 k]) (by simp [results, Tryz.f65, go_sem, q0, q1, q2, q3, q4]) rfl ?_
  exact post_ok HO.out rfl hN5 hR5

set_option maxRecDepth 100000 in
set_option maxHeartbeats 1600000 in
theorem getIns2 (pb Bs kb M : Nat) (s s0 : List UInt8) (w : World) (h : Rdr w pb Bs kb M s) (ho : Hid (rdN 10 s = some (2, s0))) :
    Calls Tryz.prog 65 #[.agg #[F1 pb, F2 pb, F3 kb]] w (GetPost w pb Bs kb M insRes (rdIns 7 s)) := by
  obtain ⟨wf, hwf⟩ : ∃ wf, wf = (w.alloc (.cells #[F1 pb, F2 pb, F3 kb] 61)).alloc (.cells #[.int .u8 0, .int .i64 0, .int .i64 0, .int .i64 0, .int .i64 0] 42) := ⟨_, rfl⟩
  have hB0 : Below w.heap.size w wf := by rw [hwf]; exact below2 w _ _
  have hsf : wf.heap.size = w.heap.size + 1 + 1 := by rw [hwf]; simp
  have hR0 := h.later hB0 (Nat.le_refl _)
  have hX0 : Blk wf w.heap.size 61 #[F1 pb, F2 pb, F3 kb] := by rw [hwf]; exact (blk_new w _ _).alloc _
  have hC0 : Blk wf (w.heap.size + 1) 42 #[.int .u8 0, .int .i64 0, .int .i64 0, .int .i64 0, .int .i64 0] := by rw [hwf]; exact blk_at (World.size_alloc _ _).symm
  have hN0 : RBut Bs M w wf := But.of_below hB0 _
  have c0 := hX0.cell (k := 0) (v := F1 pb) rfl
  have hc := get_ok (number_any 10 pb Bs kb M s (by omega) _ hR0) ho.out
  go_enter Tryz.func65, Tryz.ntmps65
  go_wp2_with fail
  rw [← hwf]
  clear hwf
  refine hc.mono ?_
  rintro e w1 ⟨v, rfl, rfl, hb, hR1⟩
  have hX1 := hX0.over hR0 (by decide) hb
  have hC1 := hC0.over hR0 (by decide) hb
  have hN1 := hN0.next hb
  have hs1 := hb.size
  clear hc hB0 hR0 hX0 hC0 hN0 c0 hb
  obtain ⟨w2, hw2⟩ : ∃ w2, w2 = w1.alloc (.cells #[.int .u8 2, .int .i64 0, .int .i64 0, .int .i64 0, .int .i64 0] 42) := ⟨_, rfl⟩
  have hI2 : Blk w2 w1.heap.size 42 #[.int .u8 2, .int .i64 0, .int .i64 0, .int .i64 0, .int .i64 0] := by rw [hw2]; exact blk_new w1 _ _
  have hB2 : Below w1.heap.size w1 w2 := by rw [hw2]; exact (Below.refl _ w1).alloc (Nat.le_refl _) _
  have hR2 := hR1.later hB2 (Nat.le_refl _)
  have hX2 := hX1.later hB2 hX1.lt
  have hC2 := hC1.later hB2 hC1.lt
  have hN2 : RBut Bs M w w2 := hN1.next (But.of_below hB2 _)
  have d2 := hX2.cell (k := 2) (v := F3 kb) rfl
  have d0 := hI2.cell (k := 0) (v := .int .u8 2) rfl
  have hn : Calls Tryz.prog 75 #[.int .u8 2, .pointer (some ⟨kb, 0, none⟩)] w2 fun e w' => e = .returned (.agg #[.bool true, .bool true, .bool false, .bool false]) ∧ But [M] w2 w' ∧ Nmr w' kb M := named_op 2 kb M (by omega) w2 hR2.nm
  rw [hw2] at d0 d2
  clear hB2 hX1 hC1 hN1
  go_wp2_with fail
  rw [← hw2]
  clear hw2
  refine hn.mono ?_
  rintro e w3 ⟨rfl, hb3, hn3⟩
  obtain ⟨w4, hw4⟩ : ∃ w4, w4 = w3.alloc (.cells #[.bool true, .bool true, .bool false, .bool false] 99) := ⟨_, rfl⟩
  have hB4 : Below w3.heap.size w3 w4 := by rw [hw4]; exact (Below.refl _ w3).alloc (Nat.le_refl _) _
  have hF4 : Blk w4 w3.heap.size 99 #[.bool true, .bool true, .bool false, .bool false] := by rw [hw4]; exact blk_new w3 _ _
  have hG : GI w w4 pb Bs kb M w1.heap.size w3.heap.size s0 (2 : Int) 0 0 0 0 true true false false :=
    ⟨(hR2.named hb3 hn3).later hB4 (Nat.le_refl _), (hX2.named hR2.nm hb3).later hB4 (hX2.named hR2.nm hb3).lt, (hC2.named hR2.nm hb3).later hB4 (hC2.named hR2.nm hb3).lt, (hI2.named hR2.nm hb3).later hB4 (hI2.named hR2.nm hb3).lt, hF4, (hN2.next (hb3.mono (by simp))).next (But.of_below hB4 _), by omega⟩
  obtain ⟨⟨c0, c1, c2⟩, ⟨c3, c4, c5, c6, c7⟩, ⟨c8, c9, c10, c11⟩, c12, c13, c14, c15⟩ := hG.cells
  rw [hw4] at c0 c1 c2 c3 c4 c5 c6 c7 c8 c9 c10 c11 c12 c13 c14 c15
  clear hn hR2 hX2 hC2 hI2 hN2 hb3 hn3 hB4 hF4 hR1 d0 d2
  have hcall := getRegister_any pb Bs kb M s0 _ hG.R
  cases hr : rdZ 7 s0 with
  | none =>
    have hc := get_bad hcall hr
    have HO : Hid (rdIns 7 s = none) := Lib.hid (by simp [rdIns, rdOpt, fldA, fldB, fldC, fldK, namesOf, ho.out, hr])
    clear hr hcall
    go_wp2_with fail
    rw [← hw4]
    refine hc.mono ?_
    rintro e wz ⟨rfl, hb, s', hS⟩
    exact ⟨rfl, post_bad HO.out (hG.N.next hb) hS⟩
  | some qq =>
  obtain ⟨a, s1⟩ := qq
  have hc := get_ok hcall hr
  have p0 := Lib.hid hr
  clear hr hcall
  go_wp2_with fail
  rw [← hw4]
  clear hw4
  refine hc.mono ?_
  rintro e x1 ⟨v, rfl, rfl, hb, hR⟩
  replace hG := hG.over hb hR
  clear c0 c1 c2 c3 c4 c5 c6 c7 c8 c9 c10 c11 c12 c13 c14 c15
  obtain ⟨⟨c0, c1, c2⟩, ⟨c3, c4, c5, c6, c7⟩, ⟨c8, c9, c10, c11⟩, c12, c13, c14, c15⟩ := hG.cells
  have hG' : GI w (x1.setCell ⟨w1.heap.size, 1, none⟩ (.int .i64 a)) pb Bs kb M w1.heap.size w3.heap.size s1 (2 : Int) a 0 0 0 true true false false := hG.put But.cellset (hG.I.set 1 (.int .i64 a))
  obtain ⟨⟨e0, e1, e2⟩, ⟨e3, e4, e5, e6, e7⟩, ⟨e8, e9, e10, e11⟩, e12, e13, e14, e15⟩ := hG'.cells
  clear hc hR hb
  clear hG
  have hG := hG'
  clear hG'
  have hcall := getRegister_any pb Bs kb M s1 _ hG.R
  cases hr : rdZ 7 s1 with
  | none =>
    have hc := get_bad hcall hr
    have HO : Hid (rdIns 7 s = none) := Lib.hid (by simp [rdIns, rdOpt, fldA, fldB, fldC, fldK, namesOf, ho.out, p0.out, hr])
    clear hr hcall
    go_wp2_with fail
    refine hc.mono ?_
    rintro e wz ⟨rfl, hb, s', hS⟩
    exact ⟨rfl, post_bad HO.out (hG.N.next hb) hS⟩
  | some qq =>
  obtain ⟨b, s2⟩ := qq
  have hc := get_ok hcall hr
  have p1 := Lib.hid hr
  clear hr hcall
  go_wp2_with fail
  refine hc.mono ?_
  rintro e x2 ⟨v, rfl, rfl, hb, hR⟩
  replace hG := hG.over hb hR
  clear c0 c1 c2 c3 c4 c5 c6 c7 c8 c9 c10 c11 c12 c13 c14 c15
  obtain ⟨⟨c0, c1, c2⟩, ⟨c3, c4, c5, c6, c7⟩, ⟨c8, c9, c10, c11⟩, c12, c13, c14, c15⟩ := hG.cells
  have hG' : GI w (x2.setCell ⟨w1.heap.size, 2, none⟩ (.int .i64 b)) pb Bs kb M w1.heap.size w3.heap.size s2 (2 : Int) a b 0 0 true true false false := hG.put But.cellset (hG.I.set 2 (.int .i64 b))
  obtain ⟨⟨e0, e1, e2⟩, ⟨e3, e4, e5, e6, e7⟩, ⟨e8, e9, e10, e11⟩, e12, e13, e14, e15⟩ := hG'.cells
  clear hc hR hb
  clear hG
  have hG := hG'
  clear hG'
  have HO : Hid (rdIns 7 s = some (⟨2, a, b, 0, 0⟩, s2)) := Lib.hid (by simp [rdIns, rdOpt, fldA, fldB, fldC, fldK, namesOf, ho.out, p0.out, p1.out])
  obtain ⟨⟨r0, r1, r2, r3, r4⟩, z0, z1, z2, z3, z4⟩ := hG.res
  obtain ⟨W', hW', q0, q1, q2, q3, q4, hR5, hN5⟩ := hG.done
  subst hW'
  clear hG
  go_wp2_with fail
  refine bodyPost_ret (v := .agg #[.int .u8 2, .int .i64 a, .int .i64 b, .int .i64 0, .int .i64 0]) (by simp [results, Tryz.f65, go_sem, q0, q1, q2, q3, q4]) rfl ?_
  exact post_ok HO.out rfl hN5 hR5

set_option maxRecDepth 100000 in
set_option maxHeartbeats 1600000 in
theorem getIns3 (pb Bs kb M : Nat) (s s0 : List UInt8) (w : World) (h : Rdr w pb Bs kb M s) (ho : Hid (rdN 10 s = some (3, s0))) :
    Calls Tryz.prog 65 #[.agg #[F1 pb, F2 pb, F3 kb]] w (GetPost w pb Bs kb M insRes (rdIns 7 s)) := by
  obtain ⟨wf, hwf⟩ : ∃ wf, wf = (w.alloc (.cells #[F1 pb, F2 pb, F3 kb] 61)).alloc (.cells #[.int .u8 0, .int .i64 0, .int .i64 0, .int .i64 0, .int .i64 0] 42) := ⟨_, rfl⟩
  have hB0 : Below w.heap.size w wf := by rw [hwf]; exact below2 w _ _
  have hsf : wf.heap.size = w.heap.size + 1 + 1 := by rw [hwf]; simp
  have hR0 := h.later hB0 (Nat.le_refl _)
  have hX0 : Blk wf w.heap.size 61 #[F1 pb, F2 pb, F3 kb] := by rw [hwf]; exact (blk_new w _ _).alloc _
  have hC0 : Blk wf (w.heap.size + 1) 42 #[.int .u8 0, .int .i64 0, .int .i64 0, .int .i64 0, .int .i64 0] := by rw [hwf]; exact blk_at (World.size_alloc _ _).symm
  have hN0 : RBut Bs M w wf := But.of_below hB0 _
  have c0 := hX0.cell (k := 0) (v := F1 pb) rfl
  have hc := get_ok (number_any 10 pb Bs kb M s (by omega) _ hR0) ho.out
  go_enter Tryz.func65, Tryz.ntmps65
  go_wp2_with fail
  rw [← hwf]
  clear hwf
  refine hc.mono ?_
  rintro e w1 ⟨v, rfl, rfl, hb, hR1⟩
  have hX1 := hX0.over hR0 (by decide) hb
  have hC1 := hC0.over hR0 (by decide) hb
  have hN1 := hN0.next hb
  have hs1 := hb.size
  clear hc hB0 hR0 hX0 hC0 hN0 c0 hb
  obtain ⟨w2, hw2⟩ : ∃ w2, w2 = w1.alloc (.cells #[.int .u8 3, .int .i64 0, .int .i64 0, .int .i64 0, .int .i64 0] 42) := ⟨_, rfl⟩
  have hI2 : Blk w2 w1.heap.size 42 #[.int .u8 3, .int .i64 0, .int .i64 0, .int .i64 0, .int .i64 0] := by rw [hw2]; exact blk_new w1 _ _
  have hB2 : Below w1.heap.size w1 w2 := by rw [hw2]; exact (Below.refl _ w1).alloc (Nat.le_refl _) _
  have hR2 := hR1.later hB2 (Nat.le_refl _)
  have hX2 := hX1.later hB2 hX1.lt
  have hC2 := hC1.later hB2 hC1.lt
  have hN2 : RBut Bs M w w2 := hN1.next (But.of_below hB2 _)
  have d2 := hX2.cell (k := 2) (v := F3 kb) rfl
  have d0 := hI2.cell (k := 0) (v := .int .u8 3) rfl
  have hn : Calls Tryz.prog 75 #[.int .u8 3, .pointer (some ⟨kb, 0, none⟩)] w2 fun e w' => e = .returned (.agg #[.bool false, .bool false, .bool false, .bool true]) ∧ But [M] w2 w' ∧ Nmr w' kb M := named_op 3 kb M (by omega) w2 hR2.nm
  rw [hw2] at d0 d2
  clear hB2 hX1 hC1 hN1
  go_wp2_with fail
  rw [← hw2]
  clear hw2
  refine hn.mono ?_
  rintro e w3 ⟨rfl, hb3, hn3⟩
  obtain ⟨w4, hw4⟩ : ∃ w4, w4 = w3.alloc (.cells #[.bool false, .bool false, .bool false, .bool true] 99) := ⟨_, rfl⟩
  have hB4 : Below w3.heap.size w3 w4 := by rw [hw4]; exact (Below.refl _ w3).alloc (Nat.le_refl _) _
  have hF4 : Blk w4 w3.heap.size 99 #[.bool false, .bool false, .bool false, .bool true] := by rw [hw4]; exact blk_new w3 _ _
  have hG : GI w w4 pb Bs kb M w1.heap.size w3.heap.size s0 (3 : Int) 0 0 0 0 false false false true :=
    ⟨(hR2.named hb3 hn3).later hB4 (Nat.le_refl _), (hX2.named hR2.nm hb3).later hB4 (hX2.named hR2.nm hb3).lt, (hC2.named hR2.nm hb3).later hB4 (hC2.named hR2.nm hb3).lt, (hI2.named hR2.nm hb3).later hB4 (hI2.named hR2.nm hb3).lt, hF4, (hN2.next (hb3.mono (by simp))).next (But.of_below hB4 _), by omega⟩
  obtain ⟨⟨c0, c1, c2⟩, ⟨c3, c4, c5, c6, c7⟩, ⟨c8, c9, c10, c11⟩, c12, c13, c14, c15⟩ := hG.cells
  rw [hw4] at c0 c1 c2 c3 c4 c5 c6 c7 c8 c9 c10 c11 c12 c13 c14 c15
  clear hn hR2 hX2 hC2 hI2 hN2 hb3 hn3 hB4 hF4 hR1 d0 d2
  have hcall := signed_any pb Bs kb M s0 _ hG.R
  cases hr : rdI s0 with
  | none =>
    have hc := get_bad hcall hr
    have HO : Hid (rdIns 7 s = none) := Lib.hid (by simp [rdIns, rdOpt, fldA, fldB, fldC, fldK, namesOf, ho.out, hr])
    clear hr hcall
    go_wp2_with fail
    rw [← hw4]
    refine hc.mono ?_
    rintro e wz ⟨rfl, hb, s', hS⟩
    exact ⟨rfl, post_bad HO.out (hG.N.next hb) hS⟩
  | some qq =>
  obtain ⟨k, s1⟩ := qq
  have hc := get_ok hcall hr
  have p0 := Lib.hid hr
  clear hr hcall
  go_wp2_with fail
  rw [← hw4]
  clear hw4
  refine hc.mono ?_
  rintro e x1 ⟨v, rfl, rfl, hb, hR⟩
  replace hG := hG.over hb hR
  clear c0 c1 c2 c3 c4 c5 c6 c7 c8 c9 c10 c11 c12 c13 c14 c15
  obtain ⟨⟨c0, c1, c2⟩, ⟨c3, c4, c5, c6, c7⟩, ⟨c8, c9, c10, c11⟩, c12, c13, c14, c15⟩ := hG.cells
  have hG' : GI w (x1.setCell ⟨w1.heap.size, 4, none⟩ (.int .i64 k)) pb Bs kb M w1.heap.size w3.heap.size s1 (3 : Int) 0 0 0 k false false false true := hG.put But.cellset (hG.I.set 4 (.int .i64 k))
  obtain ⟨⟨e0, e1, e2⟩, ⟨e3, e4, e5, e6, e7⟩, ⟨e8, e9, e10, e11⟩, e12, e13, e14, e15⟩ := hG'.cells
  clear hc hR hb
  clear hG
  have hG := hG'
  clear hG'
  have HO : Hid (rdIns 7 s = some (⟨3, 0, 0, 0, k⟩, s1)) := Lib.hid (by simp [rdIns, rdOpt, fldA, fldB, fldC, fldK, namesOf, ho.out, p0.out])
  obtain ⟨⟨r0, r1, r2, r3, r4⟩, z0, z1, z2, z3, z4⟩ := hG.res
  obtain ⟨W', hW', q0, q1, q2, q3, q4, hR5, hN5⟩ := hG.done
  subst hW'
  clear hG
  go_wp2_with fail
  refine bodyPost_ret (v := .agg #[.int .u8 3, .int .i64 0, .int .i64 0, .int .i64 0, .int .i64 k]) (by simp [results, Tryz.f65, go_sem, q0, q1, q2, q3, q4]) rfl ?_
  exact post_ok HO.out rfl hN5 hR5

set_option maxRecDepth 100000 in
set_option maxHeartbeats 1600000 in
theorem getIns4 (pb Bs kb M : Nat) (s s0 : List UInt8) (w : World) (h : Rdr w pb Bs kb M s) (ho : Hid (rdN 10 s = some (4, s0))) :
    Calls Tryz.prog 65 #[.agg #[F1 pb, F2 pb, F3 kb]] w (GetPost w pb Bs kb M insRes (rdIns 7 s)) := by
  obtain ⟨wf, hwf⟩ : ∃ wf, wf = (w.alloc (.cells #[F1 pb, F2 pb, F3 kb] 61)).alloc (.cells #[.int .u8 0, .int .i64 0, .int .i64 0, .int .i64 0, .int .i64 0] 42) := ⟨_, rfl⟩
  have hB0 : Below w.heap.size w wf := by rw [hwf]; exact below2 w _ _
  have hsf : wf.heap.size = w.heap.size + 1 + 1 := by rw [hwf]; simp
  have hR0 := h.later hB0 (Nat.le_refl _)
  have hX0 : Blk wf w.heap.size 61 #[F1 pb, F2 pb, F3 kb] := by rw [hwf]; exact (blk_new w _ _).alloc _
  have hC0 : Blk wf (w.heap.size + 1) 42 #[.int .u8 0, .int .i64 0, .int .i64 0, .int .i64 0, .int .i64 0] := by rw [hwf]; exact blk_at (World.size_alloc _ _).symm
  have hN0 : RBut Bs M w wf := But.of_below hB0 _
  have c0 := hX0.cell (k := 0) (v := F1 pb) rfl
  have hc := get_ok (number_any 10 pb Bs kb M s (by omega) _ hR0) ho.out
  go_enter Tryz.func65, Tryz.ntmps65
  go_wp2_with fail
  rw [← hwf]
  clear hwf
  refine hc.mono ?_
  rintro e w1 ⟨v, rfl, rfl, hb, hR1⟩
  have hX1 := hX0.over hR0 (by decide) hb
  have hC1 := hC0.over hR0 (by decide) hb
  have hN1 := hN0.next hb
  have hs1 := hb.size
  clear hc hB0 hR0 hX0 hC0 hN0 c0 hb
  obtain ⟨w2, hw2⟩ : ∃ w2, w2 = w1.alloc (.cells #[.int .u8 4, .int .i64 0, .int .i64 0, .int .i64 0, .int .i64 0] 42) := ⟨_, rfl⟩
  have hI2 : Blk w2 w1.heap.size 42 #[.int .u8 4, .int .i64 0, .int .i64 0, .int .i64 0, .int .i64 0] := by rw [hw2]; exact blk_new w1 _ _
  have hB2 : Below w1.heap.size w1 w2 := by rw [hw2]; exact (Below.refl _ w1).alloc (Nat.le_refl _) _
  have hR2 := hR1.later hB2 (Nat.le_refl _)
  have hX2 := hX1.later hB2 hX1.lt
  have hC2 := hC1.later hB2 hC1.lt
  have hN2 : RBut Bs M w w2 := hN1.next (But.of_below hB2 _)
  have d2 := hX2.cell (k := 2) (v := F3 kb) rfl
  have d0 := hI2.cell (k := 0) (v := .int .u8 4) rfl
  have hn : Calls Tryz.prog 75 #[.int .u8 4, .pointer (some ⟨kb, 0, none⟩)] w2 fun e w' => e = .returned (.agg #[.bool true, .bool false, .bool false, .bool true]) ∧ But [M] w2 w' ∧ Nmr w' kb M := named_op 4 kb M (by omega) w2 hR2.nm
  rw [hw2] at d0 d2
  clear hB2 hX1 hC1 hN1
  go_wp2_with fail
  rw [← hw2]
  clear hw2
  refine hn.mono ?_
  rintro e w3 ⟨rfl, hb3, hn3⟩
  obtain ⟨w4, hw4⟩ : ∃ w4, w4 = w3.alloc (.cells #[.bool true, .bool false, .bool false, .bool true] 99) := ⟨_, rfl⟩
  have hB4 : Below w3.heap.size w3 w4 := by rw [hw4]; exact (Below.refl _ w3).alloc (Nat.le_refl _) _
  have hF4 : Blk w4 w3.heap.size 99 #[.bool true, .bool false, .bool false, .bool true] := by rw [hw4]; exact blk_new w3 _ _
  have hG : GI w w4 pb Bs kb M w1.heap.size w3.heap.size s0 (4 : Int) 0 0 0 0 true false false true :=
    ⟨(hR2.named hb3 hn3).later hB4 (Nat.le_refl _), (hX2.named hR2.nm hb3).later hB4 (hX2.named hR2.nm hb3).lt, (hC2.named hR2.nm hb3).later hB4 (hC2.named hR2.nm hb3).lt, (hI2.named hR2.nm hb3).later hB4 (hI2.named hR2.nm hb3).lt, hF4, (hN2.next (hb3.mono (by simp))).next (But.of_below hB4 _), by omega⟩
  obtain ⟨⟨c0, c1, c2⟩, ⟨c3, c4, c5, c6, c7⟩, ⟨c8, c9, c10, c11⟩, c12, c13, c14, c15⟩ := hG.cells
  rw [hw4] at c0 c1 c2 c3 c4 c5 c6 c7 c8 c9 c10 c11 c12 c13 c14 c15
  clear hn hR2 hX2 hC2 hI2 hN2 hb3 hn3 hB4 hF4 hR1 d0 d2
  have hcall := getRegister_any pb Bs kb M s0 _ hG.R
  cases hr : rdZ 7 s0 with
  | none =>
    have hc := get_bad hcall hr
    have HO : Hid (rdIns 7 s = none) := Lib.hid (by simp [rdIns, rdOpt, fldA, fldB, fldC, fldK, namesOf, ho.out, hr])
    clear hr hcall
    go_wp2_with fail
    rw [← hw4]
    refine hc.mono ?_
    rintro e wz ⟨rfl, hb, s', hS⟩
    exact ⟨rfl, post_bad HO.out (hG.N.next hb) hS⟩
  | some qq =>
  obtain ⟨a, s1⟩ := qq
  have hc := get_ok hcall hr
  have p0 := Lib.hid hr
  clear hr hcall
  go_wp2_with fail
  rw [← hw4]
  clear hw4
  refine hc.mono ?_
  rintro e x1 ⟨v, rfl, rfl, hb, hR⟩
  replace hG := hG.over hb hR
  clear c0 c1 c2 c3 c4 c5 c6 c7 c8 c9 c10 c11 c12 c13 c14 c15
  obtain ⟨⟨c0, c1, c2⟩, ⟨c3, c4, c5, c6, c7⟩, ⟨c8, c9, c10, c11⟩, c12, c13, c14, c15⟩ := hG.cells
  have hG' : GI w (x1.setCell ⟨w1.heap.size, 1, none⟩ (.int .i64 a)) pb Bs kb M w1.heap.size w3.heap.size s1 (4 : Int) a 0 0 0 true false false true := hG.put But.cellset (hG.I.set 1 (.int .i64 a))
  obtain ⟨⟨e0, e1, e2⟩, ⟨e3, e4, e5, e6, e7⟩, ⟨e8, e9, e10, e11⟩, e12, e13, e14, e15⟩ := hG'.cells
  clear hc hR hb
  clear hG
  have hG := hG'
  clear hG'
  have hcall := signed_any pb Bs kb M s1 _ hG.R
  cases hr : rdI s1 with
  | none =>
    have hc := get_bad hcall hr
    have HO : Hid (rdIns 7 s = none) := Lib.hid (by simp [rdIns, rdOpt, fldA, fldB, fldC, fldK, namesOf, ho.out, p0.out, hr])
    clear hr hcall
    go_wp2_with fail
    refine hc.mono ?_
    rintro e wz ⟨rfl, hb, s', hS⟩
    exact ⟨rfl, post_bad HO.out (hG.N.next hb) hS⟩
  | some qq =>
  obtain ⟨k, s2⟩ := qq
  have hc := get_ok hcall hr
  have p1 := Lib.hid hr
  clear hr hcall
  go_wp2_with fail
  refine hc.mono ?_
  rintro e x2 ⟨v, rfl, rfl, hb, hR⟩
  replace hG := hG.over hb hR
  clear c0 c1 c2 c3 c4 c5 c6 c7 c8 c9 c10 c11 c12 c13 c14 c15
  obtain ⟨⟨c0, c1, c2⟩, ⟨c3, c4, c5, c6, c7⟩, ⟨c8, c9, c10, c11⟩, c12, c13, c14, c15⟩ := hG.cells
  have hG' : GI w (x2.setCell ⟨w1.heap.size, 4, none⟩ (.int .i64 k)) pb Bs kb M w1.heap.size w3.heap.size s2 (4 : Int) a 0 0 k true false false true := hG.put But.cellset (hG.I.set 4 (.int .i64 k))
  obtain ⟨⟨e0, e1, e2⟩, ⟨e3, e4, e5, e6, e7⟩, ⟨e8, e9, e10, e11⟩, e12, e13, e14, e15⟩ := hG'.cells
  clear hc hR hb
  clear hG
  have hG := hG'
  clear hG'
  have HO : Hid (rdIns 7 s = some (⟨4, a, 0, 0, k⟩, s2)) := Lib.hid (by simp [rdIns, rdOpt, fldA, fldB, fldC, fldK, namesOf, ho.out, p0.out, p1.out])
  obtain ⟨⟨r0, r1, r2, r3, r4⟩, z0, z1, z2, z3, z4⟩ := hG.res
  obtain ⟨W', hW', q0, q1, q2, q3, q4, hR5, hN5⟩ := hG.done
  subst hW'
  clear hG
  go_wp2_with fail
  refine bodyPost_ret (v := .agg #[.int .u8 4, .int .i64 a, .int .i64 0, .int .i64 0, .int .i64 k]) (by simp [results, Tryz.f65, go_sem, q0, q1, q2, q3, q4]) rfl ?_
  exact post_ok HO.out rfl hN5 hR5

set_option maxRecDepth 100000 in
set_option maxHeartbeats 1600000 in
theorem getIns5 (pb Bs kb M : Nat) (s s0 : List UInt8) (w : World) (h : Rdr w pb Bs kb M s) (ho : Hid (rdN 10 s = some (5, s0))) :
    Calls Tryz.prog 65 #[.agg #[F1 pb, F2 pb, F3 kb]] w (GetPost w pb Bs kb M insRes (rdIns 7 s)) := by
  obtain ⟨wf, hwf⟩ : ∃ wf, wf = (w.alloc (.cells #[F1 pb, F2 pb, F3 kb] 61)).alloc (.cells #[.int .u8 0, .int .i64 0, .int .i64 0, .int .i64 0, .int .i64 0] 42) := ⟨_, rfl⟩
  have hB0 : Below w.heap.size w wf := by rw [hwf]; exact below2 w _ _
  have hsf : wf.heap.size = w.heap.size + 1 + 1 := by rw [hwf]; simp
  have hR0 := h.later hB0 (Nat.le_refl _)
  have hX0 : Blk wf w.heap.size 61 #[F1 pb, F2 pb, F3 kb] := by rw [hwf]; exact (blk_new w _ _).alloc _
  have hC0 : Blk wf (w.heap.size + 1) 42 #[.int .u8 0, .int .i64 0, .int .i64 0, .int .i64 0, .int .i64 0] := by rw [hwf]; exact blk_at (World.size_alloc _ _).symm
  have hN0 : RBut Bs M w wf := But.of_below hB0 _
  have c0 := hX0.cell (k := 0) (v := F1 pb) rfl
  have hc := get_ok (number_any 10 pb Bs kb M s (by omega) _ hR0) ho.out
  go_enter Tryz.func65, Tryz.ntmps65
  go_wp2_with fail
  rw [← hwf]
  clear hwf
  refine hc.mono ?_
  rintro e w1 ⟨v, rfl, rfl, hb, hR1⟩
  have hX1 := hX0.over hR0 (by decide) hb
  have hC1 := hC0.over hR0 (by decide) hb
  have hN1 := hN0.next hb
  have hs1 := hb.size
  clear hc hB0 hR0 hX0 hC0 hN0 c0 hb
  obtain ⟨w2, hw2⟩ : ∃ w2, w2 = w1.alloc (.cells #[.int .u8 5, .int .i64 0, .int .i64 0, .int .i64 0, .int .i64 0] 42) := ⟨_, rfl⟩
  have hI2 : Blk w2 w1.heap.size 42 #[.int .u8 5, .int .i64 0, .int .i64 0, .int .i64 0, .int .i64 0] := by rw [hw2]; exact blk_new w1 _ _
  have hB2 : Below w1.heap.size w1 w2 := by rw [hw2]; exact (Below.refl _ w1).alloc (Nat.le_refl _) _
  have hR2 := hR1.later hB2 (Nat.le_refl _)
  have hX2 := hX1.later hB2 hX1.lt
  have hC2 := hC1.later hB2 hC1.lt
  have hN2 : RBut Bs M w w2 := hN1.next (But.of_below hB2 _)
  have d2 := hX2.cell (k := 2) (v := F3 kb) rfl
  have d0 := hI2.cell (k := 0) (v := .int .u8 5) rfl
  have hn : Calls Tryz.prog 75 #[.int .u8 5, .pointer (some ⟨kb, 0, none⟩)] w2 fun e w' => e = .returned (.agg #[.bool true, .bool false, .bool true, .bool false]) ∧ But [M] w2 w' ∧ Nmr w' kb M := named_op 5 kb M (by omega) w2 hR2.nm
  rw [hw2] at d0 d2
  clear hB2 hX1 hC1 hN1
  go_wp2_with fail
  rw [← hw2]
  clear hw2
  refine hn.mono ?_
  rintro e w3 ⟨rfl, hb3, hn3⟩
  obtain ⟨w4, hw4⟩ : ∃ w4, w4 = w3.alloc (.cells #[.bool true, .bool false, .bool true, .bool false] 99) := ⟨_, rfl⟩
  have hB4 : Below w3.heap.size w3 w4 := by rw [hw4]; exact (Below.refl _ w3).alloc (Nat.le_refl _) _
  have hF4 : Blk w4 w3.heap.size 99 #[.bool true, .bool false, .bool true, .bool false] := by rw [hw4]; exact blk_new w3 _ _
  have hG : GI w w4 pb Bs kb M w1.heap.size w3.heap.size s0 (5 : Int) 0 0 0 0 true false true false :=
    ⟨(hR2.named hb3 hn3).later hB4 (Nat.le_refl _), (hX2.named hR2.nm hb3).later hB4 (hX2.named hR2.nm hb3).lt, (hC2.named hR2.nm hb3).later hB4 (hC2.named hR2.nm hb3).lt, (hI2.named hR2.nm hb3).later hB4 (hI2.named hR2.nm hb3).lt, hF4, (hN2.next (hb3.mono (by simp))).next (But.of_below hB4 _), by omega⟩
  obtain ⟨⟨c0, c1, c2⟩, ⟨c3, c4, c5, c6, c7⟩, ⟨c8, c9, c10, c11⟩, c12, c13, c14, c15⟩ := hG.cells
  rw [hw4] at c0 c1 c2 c3 c4 c5 c6 c7 c8 c9 c10 c11 c12 c13 c14 c15
  clear hn hR2 hX2 hC2 hI2 hN2 hb3 hn3 hB4 hF4 hR1 d0 d2
  have hcall := getRegister_any pb Bs kb M s0 _ hG.R
  cases hr : rdZ 7 s0 with
  | none =>
    have hc := get_bad hcall hr
    have HO : Hid (rdIns 7 s = none) := Lib.hid (by simp [rdIns, rdOpt, fldA, fldB, fldC, fldK, namesOf, ho.out, hr])
    clear hr hcall
    go_wp2_with fail
    rw [← hw4]
    refine hc.mono ?_
    rintro e wz ⟨rfl, hb, s', hS⟩
    exact ⟨rfl, post_bad HO.out (hG.N.next hb) hS⟩
  | some qq =>
  obtain ⟨a, s1⟩ := qq
  have hc := get_ok hcall hr
  have p0 := Lib.hid hr
  clear hr hcall
  go_wp2_with fail
  rw [← hw4]
  clear hw4
  refine hc.mono ?_
  rintro e x1 ⟨v, rfl, rfl, hb, hR⟩
  replace hG := hG.over hb hR
  clear c0 c1 c2 c3 c4 c5 c6 c7 c8 c9 c10 c11 c12 c13 c14 c15
  obtain ⟨⟨c0, c1, c2⟩, ⟨c3, c4, c5, c6, c7⟩, ⟨c8, c9, c10, c11⟩, c12, c13, c14, c15⟩ := hG.cells
  have hG' : GI w (x1.setCell ⟨w1.heap.size, 1, none⟩ (.int .i64 a)) pb Bs kb M w1.heap.size w3.heap.size s1 (5 : Int) a 0 0 0 true false true false := hG.put But.cellset (hG.I.set 1 (.int .i64 a))
  obtain ⟨⟨e0, e1, e2⟩, ⟨e3, e4, e5, e6, e7⟩, ⟨e8, e9, e10, e11⟩, e12, e13, e14, e15⟩ := hG'.cells
  clear hc hR hb
  clear hG
  have hG := hG'
  clear hG'
  have hcall := getChannel_any pb Bs kb M s1 _ hG.R
  cases hr : rdC s1 with
  | none =>
    have hc := get_bad hcall hr
    have HO : Hid (rdIns 7 s = none) := Lib.hid (by simp [rdIns, rdOpt, fldA, fldB, fldC, fldK, namesOf, ho.out, p0.out, hr])
    clear hr hcall
    go_wp2_with fail
    refine hc.mono ?_
    rintro e wz ⟨rfl, hb, s', hS⟩
    exact ⟨rfl, post_bad HO.out (hG.N.next hb) hS⟩
  | some qq =>
  obtain ⟨c, s2⟩ := qq
  have hc := get_ok hcall hr
  have p1 := Lib.hid hr
  clear hr hcall
  go_wp2_with fail
  refine hc.mono ?_
  rintro e x2 ⟨v, rfl, rfl, hb, hR⟩
  replace hG := hG.over hb hR
  clear c0 c1 c2 c3 c4 c5 c6 c7 c8 c9 c10 c11 c12 c13 c14 c15
  obtain ⟨⟨c0, c1, c2⟩, ⟨c3, c4, c5, c6, c7⟩, ⟨c8, c9, c10, c11⟩, c12, c13, c14, c15⟩ := hG.cells
  have hG' : GI w (x2.setCell ⟨w1.heap.size, 3, none⟩ (.int .i64 c)) pb Bs kb M w1.heap.size w3.heap.size s2 (5 : Int) a 0 c 0 true false true false := hG.put But.cellset (hG.I.set 3 (.int .i64 c))
  obtain ⟨⟨e0, e1, e2⟩, ⟨e3, e4, e5, e6, e7⟩, ⟨e8, e9, e10, e11⟩, e12, e13, e14, e15⟩ := hG'.cells
  clear hc hR hb
  clear hG
  have hG := hG'
  clear hG'
  have HO : Hid (rdIns 7 s = some (⟨5, a, 0, c, 0⟩, s2)) := Lib.hid (by simp [rdIns, rdOpt, fldA, fldB, fldC, fldK, namesOf, ho.out, p0.out, p1.out])
  obtain ⟨⟨r0, r1, r2, r3, r4⟩, z0, z1, z2, z3, z4⟩ := hG.res
  obtain ⟨W', hW', q0, q1, q2, q3, q4, hR5, hN5⟩ := hG.done
  subst hW'
  clear hG
  go_wp2_with fail
  refine bodyPost_ret (v := .agg #[.int .u8 5, .int .i64 a, .int .i64 0, .int .i64 c, .int .i64 0]) (by simp [results, Tryz.f65, go_sem, q0, q1, q2, q3, q4]) rfl ?_
  exact post_ok HO.out rfl hN5 hR5

set_option maxRecDepth 100000 in
set_option maxHeartbeats 1600000 in
theorem getIns6 (pb Bs kb M : Nat) (s s0 : List UInt8) (w : World) (h : Rdr w pb Bs kb M s) (ho : Hid (rdN 10 s = some (6, s0))) :
    Calls Tryz.prog 65 #[.agg #[F1 pb, F2 pb, F3 kb]] w (GetPost w pb Bs kb M insRes (rdIns 7 s)) := by
  obtain ⟨wf, hwf⟩ : ∃ wf, wf = (w.alloc (.cells #[F1 pb, F2 pb, F3 kb] 61)).alloc (.cells #[.int .u8 0, .int .i64 0, .int .i64 0, .int .i64 0, .int .i64 0] 42) := ⟨_, rfl⟩
  have hB0 : Below w.heap.size w wf := by rw [hwf]; exact below2 w _ _
  have hsf : wf.heap.size = w.heap.size + 1 + 1 := by rw [hwf]; simp
  have hR0 := h.later hB0 (Nat.le_refl _)
  have hX0 : Blk wf w.heap.size 61 #[F1 pb, F2 pb, F3 kb] := by rw [hwf]; exact (blk_new w _ _).alloc _
  have hC0 : Blk wf (w.heap.size + 1) 42 #[.int .u8 0, .int .i64 0, .int .i64 0, .int .i64 0, .int .i64 0] := by rw [hwf]; exact blk_at (World.size_alloc _ _).symm
  have hN0 : RBut Bs M w wf := But.of_below hB0 _
  have c0 := hX0.cell (k := 0) (v := F1 pb) rfl
  have hc := get_ok (number_any 10 pb Bs kb M s (by omega) _ hR0) ho.out
  go_enter Tryz.func65, Tryz.ntmps65
  go_wp2_with fail
  rw [← hwf]
  clear hwf
  refine hc.mono ?_
  rintro e w1 ⟨v, rfl, rfl, hb, hR1⟩
  have hX1 := hX0.over hR0 (by decide) hb
  have hC1 := hC0.over hR0 (by decide) hb
  have hN1 := hN0.next hb
  have hs1 := hb.size
  clear hc hB0 hR0 hX0 hC0 hN0 c0 hb
  obtain ⟨w2, hw2⟩ : ∃ w2, w2 = w1.alloc (.cells #[.int .u8 6, .int .i64 0, .int .i64 0, .int .i64 0, .int .i64 0] 42) := ⟨_, rfl⟩
  have hI2 : Blk w2 w1.heap.size 42 #[.int .u8 6, .int .i64 0, .int .i64 0, .int .i64 0, .int .i64 0] := by rw [hw2]; exact blk_new w1 _ _
  have hB2 : Below w1.heap.size w1 w2 := by rw [hw2]; exact (Below.refl _ w1).alloc (Nat.le_refl _) _
  have hR2 := hR1.later hB2 (Nat.le_refl _)
  have hX2 := hX1.later hB2 hX1.lt
  have hC2 := hC1.later hB2 hC1.lt
  have hN2 : RBut Bs M w w2 := hN1.next (But.of_below hB2 _)
  have d2 := hX2.cell (k := 2) (v := F3 kb) rfl
  have d0 := hI2.cell (k := 0) (v := .int .u8 6) rfl
  have hn : Calls Tryz.prog 75 #[.int .u8 6, .pointer (some ⟨kb, 0, none⟩)] w2 fun e w' => e = .returned (.agg #[.bool true, .bool true, .bool true, .bool false]) ∧ But [M] w2 w' ∧ Nmr w' kb M := named_op 6 kb M (by omega) w2 hR2.nm
  rw [hw2] at d0 d2
  clear hB2 hX1 hC1 hN1
  go_wp2_with fail
  rw [← hw2]
  clear hw2
  refine hn.mono ?_
  rintro e w3 ⟨rfl, hb3, hn3⟩
  obtain ⟨w4, hw4⟩ : ∃ w4, w4 = w3.alloc (.cells #[.bool true, .bool true, .bool true, .bool false] 99) := ⟨_, rfl⟩
  have hB4 : Below w3.heap.size w3 w4 := by rw [hw4]; exact (Below.refl _ w3).alloc (Nat.le_refl _) _
  have hF4 : Blk w4 w3.heap.size 99 #[.bool true, .bool true, .bool true, .bool false] := by rw [hw4]; exact blk_new w3 _ _
  have hG : GI w w4 pb Bs kb M w1.heap.size w3.heap.size s0 (6 : Int) 0 0 0 0 true true true false :=
    ⟨(hR2.named hb3 hn3).later hB4 (Nat.le_refl _), (hX2.named hR2.nm hb3).later hB4 (hX2.named hR2.nm hb3).lt, (hC2.named hR2.nm hb3).later hB4 (hC2.named hR2.nm hb3).lt, (hI2.named hR2.nm hb3).later hB4 (hI2.named hR2.nm hb3).lt, hF4, (hN2.next (hb3.mono (by simp))).next (But.of_below hB4 _), by omega⟩
  obtain ⟨⟨c0, c1, c2⟩, ⟨c3, c4, c5, c6, c7⟩, ⟨c8, c9, c10, c11⟩, c12, c13, c14, c15⟩ := hG.cells
  rw [hw4] at c0 c1 c2 c3 c4 c5 c6 c7 c8 c9 c10 c11 c12 c13 c14 c15
  clear hn hR2 hX2 hC2 hI2 hN2 hb3 hn3 hB4 hF4 hR1 d0 d2
  have hcall := getRegister_any pb Bs kb M s0 _ hG.R
  cases hr : rdZ 7 s0 with
  | none =>
    have hc := get_bad hcall hr
    have HO : Hid (rdIns 7 s = none) := Lib.hid (by simp [rdIns, rdOpt, fldA, fldB, fldC, fldK, namesOf, ho.out, hr])
    clear hr hcall
    go_wp2_with fail
    rw [← hw4]
    refine hc.mono ?_
    rintro e wz ⟨rfl, hb, s', hS⟩
    exact ⟨rfl, post_bad HO.out (hG.N.next hb) hS⟩
  | some qq =>
  obtain ⟨a, s1⟩ := qq
  have hc := get_ok hcall hr
  have p0 := Lib.hid hr
  clear hr hcall
  go_wp2_with fail
  rw [← hw4]
  clear hw4
  refine hc.mono ?_
  rintro e x1 ⟨v, rfl, rfl, hb, hR⟩
  replace hG := hG.over hb hR
  clear c0 c1 c2 c3 c4 c5 c6 c7 c8 c9 c10 c11 c12 c13 c14 c15
  obtain ⟨⟨c0, c1, c2⟩, ⟨c3, c4, c5, c6, c7⟩, ⟨c8, c9, c10, c11⟩, c12, c13, c14, c15⟩ := hG.cells
  have hG' : GI w (x1.setCell ⟨w1.heap.size, 1, none⟩ (.int .i64 a)) pb Bs kb M w1.heap.size w3.heap.size s1 (6 : Int) a 0 0 0 true true true false := hG.put But.cellset (hG.I.set 1 (.int .i64 a))
  obtain ⟨⟨e0, e1, e2⟩, ⟨e3, e4, e5, e6, e7⟩, ⟨e8, e9, e10, e11⟩, e12, e13, e14, e15⟩ := hG'.cells
  clear hc hR hb
  clear hG
  have hG := hG'
  clear hG'
  have hcall := getRegister_any pb Bs kb M s1 _ hG.R
  cases hr : rdZ 7 s1 with
  | none =>
    have hc := get_bad hcall hr
    have HO : Hid (rdIns 7 s = none) := Lib.hid (by simp [rdIns, rdOpt, fldA, fldB, fldC, fldK, namesOf, ho.out, p0.out, hr])
    clear hr hcall
    go_wp2_with fail
    refine hc.mono ?_
    rintro e wz ⟨rfl, hb, s', hS⟩
    exact ⟨rfl, post_bad HO.out (hG.N.next hb) hS⟩
  | some qq =>
  obtain ⟨b, s2⟩ := qq
  have hc := get_ok hcall hr
  have p1 := Lib.hid hr
  clear hr hcall
  go_wp2_with fail
  refine hc.mono ?_
  rintro e x2 ⟨v, rfl, rfl, hb, hR⟩
  replace hG := hG.over hb hR
  clear c0 c1 c2 c3 c4 c5 c6 c7 c8 c9 c10 c11 c12 c13 c14 c15
  obtain ⟨⟨c0, c1, c2⟩, ⟨c3, c4, c5, c6, c7⟩, ⟨c8, c9, c10, c11⟩, c12, c13, c14, c15⟩ := hG.cells
  have hG' : GI w (x2.setCell ⟨w1.heap.size, 2, none⟩ (.int .i64 b)) pb Bs kb M w1.heap.size w3.heap.size s2 (6 : Int) a b 0 0 true true true false := hG.put But.cellset (hG.I.set 2 (.int .i64 b))
  obtain ⟨⟨e0, e1, e2⟩, ⟨e3, e4, e5, e6, e7⟩, ⟨e8, e9, e10, e11⟩, e12, e13, e14, e15⟩ := hG'.cells
  clear hc hR hb
  clear hG
  have hG := hG'
  clear hG'
  have hcall := getChannel_any pb Bs kb M s2 _ hG.R
  cases hr : rdC s2 with
  | none =>
    have hc := get_bad hcall hr
    have HO : Hid (rdIns 7 s = none) := Lib.hid (by simp [rdIns, rdOpt, fldA, fldB, fldC, fldK, namesOf, ho.out, p0.out, p1.out, hr])
    clear hr hcall
    go_wp2_with fail
    refine hc.mono ?_
    rintro e wz ⟨rfl, hb, s', hS⟩
    exact ⟨rfl, post_bad HO.out (hG.N.next hb) hS⟩
  | some qq =>
  obtain ⟨c, s3⟩ := qq
  have hc := get_ok hcall hr
  have p2 := Lib.hid hr
  clear hr hcall
  go_wp2_with fail
  refine hc.mono ?_
  rintro e x3 ⟨v, rfl, rfl, hb, hR⟩
  replace hG := hG.over hb hR
  clear c0 c1 c2 c3 c4 c5 c6 c7 c8 c9 c10 c11 c12 c13 c14 c15
  obtain ⟨⟨c0, c1, c2⟩, ⟨c3, c4, c5, c6, c7⟩, ⟨c8, c9, c10, c11⟩, c12, c13, c14, c15⟩ := hG.cells
  have hG' : GI w (x3.setCell ⟨w1.heap.size, 3, none⟩ (.int .i64 c)) pb Bs kb M w1.heap.size w3.heap.size s3 (6 : Int) a b c 0 true true true false := hG.put But.cellset (hG.I.set 3 (.int .i64 c))
  obtain ⟨⟨e0, e1, e2⟩, ⟨e3, e4, e5, e6, e7⟩, ⟨e8, e9, e10, e11⟩, e12, e13, e14, e15⟩ := hG'.cells
  clear hc hR hb
  clear hG
  have hG := hG'
  clear hG'
  have HO : Hid (rdIns 7 s = some (⟨6, a, b, c, 0⟩, s3)) := Lib.hid (by simp [rdIns, rdOpt, fldA, fldB, fldC, fldK, namesOf, ho.out, p0.out, p1.out, p2.out])
  obtain ⟨⟨r0, r1, r2, r3, r4⟩, z0, z1, z2, z3, z4⟩ := hG.res
  obtain ⟨W', hW', q0, q1, q2, q3, q4, hR5, hN5⟩ := hG.done
  subst hW'
  clear hG
  go_wp2_with fail
  refine bodyPost_ret (v := .agg #[.int .u8 6, .int .i64 a, .int .i64 b, .int .i64 c, .int .i64 0]) (by simp [results, Tryz.f65, go_sem, q0, q1, q2, q3, q4]) rfl ?_
  exact post_ok HO.out rfl hN5 hR5

set_option maxRecDepth 100000 in
set_option maxHeartbeats 1600000 in
theorem getIns7 (pb Bs kb M : Nat) (s s0 : List UInt8) (w : World) (h : Rdr w pb Bs kb M s) (ho : Hid (rdN 10 s = some (7, s0))) :
    Calls Tryz.prog 65 #[.agg #[F1 pb, F2 pb, F3 kb]] w (GetPost w pb Bs kb M insRes (rdIns 7 s)) := by
  obtain ⟨wf, hwf⟩ : ∃ wf, wf = (w.alloc (.cells #[F1 pb, F2 pb, F3 kb] 61)).alloc (.cells #[.int .u8 0, .int .i64 0, .int .i64 0, .int .i64 0, .int .i64 0] 42) := ⟨_, rfl⟩
  have hB0 : Below w.heap.size w wf := by rw [hwf]; exact below2 w _ _
  have hsf : wf.heap.size = w.heap.size + 1 + 1 := by rw [hwf]; simp
  have hR0 := h.later hB0 (Nat.le_refl _)
  have hX0 : Blk wf w.heap.size 61 #[F1 pb, F2 pb, F3 kb] := by rw [hwf]; exact (blk_new w _ _).alloc _
  have hC0 : Blk wf (w.heap.size + 1) 42 #[.int .u8 0, .int .i64 0, .int .i64 0, .int .i64 0, .int .i64 0] := by rw [hwf]; exact blk_at (World.size_alloc _ _).symm
  have hN0 : RBut Bs M w wf := But.of_below hB0 _
  have c0 := hX0.cell (k := 0) (v := F1 pb) rfl
  have hc := get_ok (number_any 10 pb Bs kb M s (by omega) _ hR0) ho.out
  go_enter Tryz.func65, Tryz.ntmps65
  go_wp2_with fail
  rw [← hwf]
  clear hwf
  refine hc.mono ?_
  rintro e w1 ⟨v, rfl, rfl, hb, hR1⟩
  have hX1 := hX0.over hR0 (by decide) hb
  have hC1 := hC0.over hR0 (by decide) hb
  have hN1 := hN0.next hb
  have hs1 := hb.size
  clear hc hB0 hR0 hX0 hC0 hN0 c0 hb
  obtain ⟨w2, hw2⟩ : ∃ w2, w2 = w1.alloc (.cells #[.int .u8 7, .int .i64 0, .int .i64 0, .int .i64 0, .int .i64 0] 42) := ⟨_, rfl⟩
  have hI2 : Blk w2 w1.heap.size 42 #[.int .u8 7, .int .i64 0, .int .i64 0, .int .i64 0, .int .i64 0] := by rw [hw2]; exact blk_new w1 _ _
  have hB2 : Below w1.heap.size w1 w2 := by rw [hw2]; exact (Below.refl _ w1).alloc (Nat.le_refl _) _
  have hR2 := hR1.later hB2 (Nat.le_refl _)
  have hX2 := hX1.later hB2 hX1.lt
  have hC2 := hC1.later hB2 hC1.lt
  have hN2 : RBut Bs M w w2 := hN1.next (But.of_below hB2 _)
  have d2 := hX2.cell (k := 2) (v := F3 kb) rfl
  have d0 := hI2.cell (k := 0) (v := .int .u8 7) rfl
  have hn : Calls Tryz.prog 75 #[.int .u8 7, .pointer (some ⟨kb, 0, none⟩)] w2 fun e w' => e = .returned (.agg #[.bool false, .bool false, .bool true, .bool false]) ∧ But [M] w2 w' ∧ Nmr w' kb M := named_op 7 kb M (by omega) w2 hR2.nm
  rw [hw2] at d0 d2
  clear hB2 hX1 hC1 hN1
  go_wp2_with fail
  rw [← hw2]
  clear hw2
  refine hn.mono ?_
  rintro e w3 ⟨rfl, hb3, hn3⟩
  obtain ⟨w4, hw4⟩ : ∃ w4, w4 = w3.alloc (.cells #[.bool false, .bool false, .bool true, .bool false] 99) := ⟨_, rfl⟩
  have hB4 : Below w3.heap.size w3 w4 := by rw [hw4]; exact (Below.refl _ w3).alloc (Nat.le_refl _) _
  have hF4 : Blk w4 w3.heap.size 99 #[.bool false, .bool false, .bool true, .bool false] := by rw [hw4]; exact blk_new w3 _ _
  have hG : GI w w4 pb Bs kb M w1.heap.size w3.heap.size s0 (7 : Int) 0 0 0 0 false false true false :=
    ⟨(hR2.named hb3 hn3).later hB4 (Nat.le_refl _), (hX2.named hR2.nm hb3).later hB4 (hX2.named hR2.nm hb3).lt, (hC2.named hR2.nm hb3).later hB4 (hC2.named hR2.nm hb3).lt, (hI2.named hR2.nm hb3).later hB4 (hI2.named hR2.nm hb3).lt, hF4, (hN2.next (hb3.mono (by simp))).next (But.of_below hB4 _), by omega⟩
  obtain ⟨⟨c0, c1, c2⟩, ⟨c3, c4, c5, c6, c7⟩, ⟨c8, c9, c10, c11⟩, c12, c13, c14, c15⟩ := hG.cells
  rw [hw4] at c0 c1 c2 c3 c4 c5 c6 c7 c8 c9 c10 c11 c12 c13 c14 c15
  clear hn hR2 hX2 hC2 hI2 hN2 hb3 hn3 hB4 hF4 hR1 d0 d2
  have hcall := getChannel_any pb Bs kb M s0 _ hG.R
  cases hr : rdC s0 with
  | none =>
    have hc := get_bad hcall hr
    have HO : Hid (rdIns 7 s = none) := Lib.hid (by simp [rdIns, rdOpt, fldA, fldB, fldC, fldK, namesOf, ho.out, hr])
    clear hr hcall
    go_wp2_with fail
    rw [← hw4]
    refine hc.mono ?_
    rintro e wz ⟨rfl, hb, s', hS⟩
    exact ⟨rfl, post_bad HO.out (hG.N.next hb) hS⟩
  | some qq =>
  obtain ⟨c, s1⟩ := qq
  have hc := get_ok hcall hr
  have p0 := Lib.hid hr
  clear hr hcall
  go_wp2_with fail
  rw [← hw4]
  clear hw4
  refine hc.mono ?_
  rintro e x1 ⟨v, rfl, rfl, hb, hR⟩
  replace hG := hG.over hb hR
  clear c0 c1 c2 c3 c4 c5 c6 c7 c8 c9 c10 c11 c12 c13 c14 c15
  obtain ⟨⟨c0, c1, c2⟩, ⟨c3, c4, c5, c6, c7⟩, ⟨c8, c9, c10, c11⟩, c12, c13, c14, c15⟩ := hG.cells
  have hG' : GI w (x1.setCell ⟨w1.heap.size, 3, none⟩ (.int .i64 c)) pb Bs kb M w1.heap.size w3.heap.size s1 (7 : Int) 0 0 c 0 false false true false := hG.put But.cellset (hG.I.set 3 (.int .i64 c))
  obtain ⟨⟨e0, e1, e2⟩, ⟨e3, e4, e5, e6, e7⟩, ⟨e8, e9, e10, e11⟩, e12, e13, e14, e15⟩ := hG'.cells
  clear hc hR hb
  clear hG
  have hG := hG'
  clear hG'
  have HO : Hid (rdIns 7 s = some (⟨7, 0, 0, c, 0⟩, s1)) := Lib.hid (by simp [rdIns, rdOpt, fldA, fldB, fldC, fldK, namesOf, ho.out, p0.out])
  obtain ⟨⟨r0, r1, r2, r3, r4⟩, z0, z1, z2, z3, z4⟩ := hG.res
  obtain ⟨W', hW', q0, q1, q2, q3, q4, hR5, hN5⟩ := hG.done
  subst hW'
  clear hG
  go_wp2_with fail
  refine bodyPost_ret (v := .agg #[.int .u8 7, .int .i64 0, .int .i64 0, .int .i64 c, .int .i64 0]) (by simp [results, Tryz.f65, go_sem, q0, q1, q2, q3, q4]) rfl ?_
  exact post_ok HO.out rfl hN5 hR5

set_option maxRecDepth 100000 in
set_option maxHeartbeats 1600000 in
theorem getIns8 (pb Bs kb M : Nat) (s s0 : List UInt8) (w : World) (h : Rdr w pb Bs kb M s) (ho : Hid (rdN 10 s = some (8, s0))) :
    Calls Tryz.prog 65 #[.agg #[F1 pb, F2 pb, F3 kb]] w (GetPost w pb Bs kb M insRes (rdIns 7 s)) := by
  obtain ⟨wf, hwf⟩ : ∃ wf, wf = (w.alloc (.cells #[F1 pb, F2 pb, F3 kb] 61)).alloc (.cells #[.int .u8 0, .int .i64 0, .int .i64 0, .int .i64 0, .int .i64 0] 42) := ⟨_, rfl⟩
  have hB0 : Below w.heap.size w wf := by rw [hwf]; exact below2 w _ _
  have hsf : wf.heap.size = w.heap.size + 1 + 1 := by rw [hwf]; simp
  have hR0 := h.later hB0 (Nat.le_refl _)
  have hX0 : Blk wf w.heap.size 61 #[F1 pb, F2 pb, F3 kb] := by rw [hwf]; exact (blk_new w _ _).alloc _
  have hC0 : Blk wf (w.heap.size + 1) 42 #[.int .u8 0, .int .i64 0, .int .i64 0, .int .i64 0, .int .i64 0] := by rw [hwf]; exact blk_at (World.size_alloc _ _).symm
  have hN0 : RBut Bs M w wf := But.of_below hB0 _
  have c0 := hX0.cell (k := 0) (v := F1 pb) rfl
  have hc := get_ok (number_any 10 pb Bs kb M s (by omega) _ hR0) ho.out
  go_enter Tryz.func65, Tryz.ntmps65
  go_wp2_with fail
  rw [← hwf]
  clear hwf
  refine hc.mono ?_
  rintro e w1 ⟨v, rfl, rfl, hb, hR1⟩
  have hX1 := hX0.over hR0 (by decide) hb
  have hC1 := hC0.over hR0 (by decide) hb
  have hN1 := hN0.next hb
  have hs1 := hb.size
  clear hc hB0 hR0 hX0 hC0 hN0 c0 hb
  obtain ⟨w2, hw2⟩ : ∃ w2, w2 = w1.alloc (.cells #[.int .u8 8, .int .i64 0, .int .i64 0, .int .i64 0, .int .i64 0] 42) := ⟨_, rfl⟩
  have hI2 : Blk w2 w1.heap.size 42 #[.int .u8 8, .int .i64 0, .int .i64 0, .int .i64 0, .int .i64 0] := by rw [hw2]; exact blk_new w1 _ _
  have hB2 : Below w1.heap.size w1 w2 := by rw [hw2]; exact (Below.refl _ w1).alloc (Nat.le_refl _) _
  have hR2 := hR1.later hB2 (Nat.le_refl _)
  have hX2 := hX1.later hB2 hX1.lt
  have hC2 := hC1.later hB2 hC1.lt
  have hN2 : RBut Bs M w w2 := hN1.next (But.of_below hB2 _)
  have d2 := hX2.cell (k := 2) (v := F3 kb) rfl
  have d0 := hI2.cell (k := 0) (v := .int .u8 8) rfl
  have hn : Calls Tryz.prog 75 #[.int .u8 8, .pointer (some ⟨kb, 0, none⟩)] w2 fun e w' => e = .returned (.agg #[.bool false, .bool true, .bool false, .bool true]) ∧ But [M] w2 w' ∧ Nmr w' kb M := named_op 8 kb M (by omega) w2 hR2.nm
  rw [hw2] at d0 d2
  clear hB2 hX1 hC1 hN1
  go_wp2_with fail
  rw [← hw2]
  clear hw2
  refine hn.mono ?_
  rintro e w3 ⟨rfl, hb3, hn3⟩
  obtain ⟨w4, hw4⟩ : ∃ w4, w4 = w3.alloc (.cells #[.bool false, .bool true, .bool false, .bool true] 99) := ⟨_, rfl⟩
  have hB4 : Below w3.heap.size w3 w4 := by rw [hw4]; exact (Below.refl _ w3).alloc (Nat.le_refl _) _
  have hF4 : Blk w4 w3.heap.size 99 #[.bool false, .bool true, .bool false, .bool true] := by rw [hw4]; exact blk_new w3 _ _
  have hG : GI w w4 pb Bs kb M w1.heap.size w3.heap.size s0 (8 : Int) 0 0 0 0 false true false true :=
    ⟨(hR2.named hb3 hn3).later hB4 (Nat.le_refl _), (hX2.named hR2.nm hb3).later hB4 (hX2.named hR2.nm hb3).lt, (hC2.named hR2.nm hb3).later hB4 (hC2.named hR2.nm hb3).lt, (hI2.named hR2.nm hb3).later hB4 (hI2.named hR2.nm hb3).lt, hF4, (hN2.next (hb3.mono (by simp))).next (But.of_below hB4 _), by omega⟩
  obtain ⟨⟨c0, c1, c2⟩, ⟨c3, c4, c5, c6, c7⟩, ⟨c8, c9, c10, c11⟩, c12, c13, c14, c15⟩ := hG.cells
  rw [hw4] at c0 c1 c2 c3 c4 c5 c6 c7 c8 c9 c10 c11 c12 c13 c14 c15
  clear hn hR2 hX2 hC2 hI2 hN2 hb3 hn3 hB4 hF4 hR1 d0 d2
  have hcall := getRegister_any pb Bs kb M s0 _ hG.R
  cases hr : rdZ 7 s0 with
  | none =>
    have hc := get_bad hcall hr
    have HO : Hid (rdIns 7 s = none) := Lib.hid (by simp [rdIns, rdOpt, fldA, fldB, fldC, fldK, namesOf, ho.out, hr])
    clear hr hcall
    go_wp2_with fail
    rw [← hw4]
    refine hc.mono ?_
    rintro e wz ⟨rfl, hb, s', hS⟩
    exact ⟨rfl, post_bad HO.out (hG.N.next hb) hS⟩
  | some qq =>
  obtain ⟨b, s1⟩ := qq
  have hc := get_ok hcall hr
  have p0 := Lib.hid hr
  clear hr hcall
  go_wp2_with fail
  rw [← hw4]
  clear hw4
  refine hc.mono ?_
  rintro e x1 ⟨v, rfl, rfl, hb, hR⟩
  replace hG := hG.over hb hR
  clear c0 c1 c2 c3 c4 c5 c6 c7 c8 c9 c10 c11 c12 c13 c14 c15
  obtain ⟨⟨c0, c1, c2⟩, ⟨c3, c4, c5, c6, c7⟩, ⟨c8, c9, c10, c11⟩, c12, c13, c14, c15⟩ := hG.cells
  have hG' : GI w (x1.setCell ⟨w1.heap.size, 2, none⟩ (.int .i64 b)) pb Bs kb M w1.heap.size w3.heap.size s1 (8 : Int) 0 b 0 0 false true false true := hG.put But.cellset (hG.I.set 2 (.int .i64 b))
  obtain ⟨⟨e0, e1, e2⟩, ⟨e3, e4, e5, e6, e7⟩, ⟨e8, e9, e10, e11⟩, e12, e13, e14, e15⟩ := hG'.cells
  clear hc hR hb
  clear hG
  have hG := hG'
  clear hG'
  have hcall := signed_any pb Bs kb M s1 _ hG.R
  cases hr : rdI s1 with
  | none =>
    have hc := get_bad hcall hr
    have HO : Hid (rdIns 7 s = none) := Lib.hid (by simp [rdIns, rdOpt, fldA, fldB, fldC, fldK, namesOf, ho.out, p0.out, hr])
    clear hr hcall
    go_wp2_with fail
    refine hc.mono ?_
    rintro e wz ⟨rfl, hb, s', hS⟩
    exact ⟨rfl, post_bad HO.out (hG.N.next hb) hS⟩
  | some qq =>
  obtain ⟨k, s2⟩ := qq
  have hc := get_ok hcall hr
  have p1 := Lib.hid hr
  clear hr hcall
  go_wp2_with fail
  refine hc.mono ?_
  rintro e x2 ⟨v, rfl, rfl, hb, hR⟩
  replace hG := hG.over hb hR
  clear c0 c1 c2 c3 c4 c5 c6 c7 c8 c9 c10 c11 c12 c13 c14 c15
  obtain ⟨⟨c0, c1, c2⟩, ⟨c3, c4, c5, c6, c7⟩, ⟨c8, c9, c10, c11⟩, c12, c13, c14, c15⟩ := hG.cells
  have hG' : GI w (x2.setCell ⟨w1.heap.size, 4, none⟩ (.int .i64 k)) pb Bs kb M w1.heap.size w3.heap.size s2 (8 : Int) 0 b 0 k false true false true := hG.put But.cellset (hG.I.set 4 (.int .i64 k))
  obtain ⟨⟨e0, e1, e2⟩, ⟨e3, e4, e5, e6, e7⟩, ⟨e8, e9, e10, e11⟩, e12, e13, e14, e15⟩ := hG'.cells
  clear hc hR hb
  clear hG
  have hG := hG'
  clear hG'
  have HO : Hid (rdIns 7 s = some (⟨8, 0, b, 0, k⟩, s2)) := Lib.hid (by simp [rdIns, rdOpt, fldA, fldB, fldC, fldK, namesOf, ho.out, p0.out, p1.out])
  obtain ⟨⟨r0, r1, r2, r3, r4⟩, z0, z1, z2, z3, z4⟩ := hG.res
  obtain ⟨W', hW', q0, q1, q2, q3, q4, hR5, hN5⟩ := hG.done
  subst hW'
  clear hG
  go_wp2_with fail
  refine bodyPost_ret (v := .agg #[.int .u8 8, .int .i64 0, .int .i64 b, .int .i64 0, .int .i64 k]) (by simp [results, Tryz.f65, go_sem, q0, q1, q2, q3, q4]) rfl ?_
  exact post_ok HO.out rfl hN5 hR5

set_option maxRecDepth 100000 in
set_option maxHeartbeats 1600000 in
theorem getIns9 (pb Bs kb M : Nat) (s s0 : List UInt8) (w : World) (h : Rdr w pb Bs kb M s) (ho : Hid (rdN 10 s = some (9, s0))) :
    Calls Tryz.prog 65 #[.agg #[F1 pb, F2 pb, F3 kb]] w (GetPost w pb Bs kb M insRes (rdIns 7 s)) := by
  obtain ⟨wf, hwf⟩ : ∃ wf, wf = (w.alloc (.cells #[F1 pb, F2 pb, F3 kb] 61)).alloc (.cells #[.int .u8 0, .int .i64 0, .int .i64 0, .int .i64 0, .int .i64 0] 42) := ⟨_, rfl⟩
  have hB0 : Below w.heap.size w wf := by rw [hwf]; exact below2 w _ _
  have hsf : wf.heap.size = w.heap.size + 1 + 1 := by rw [hwf]; simp
  have hR0 := h.later hB0 (Nat.le_refl _)
  have hX0 : Blk wf w.heap.size 61 #[F1 pb, F2 pb, F3 kb] := by rw [hwf]; exact (blk_new w _ _).alloc _
  have hC0 : Blk wf (w.heap.size + 1) 42 #[.int .u8 0, .int .i64 0, .int .i64 0, .int .i64 0, .int .i64 0] := by rw [hwf]; exact blk_at (World.size_alloc _ _).symm
  have hN0 : RBut Bs M w wf := But.of_below hB0 _
  have c0 := hX0.cell (k := 0) (v := F1 pb) rfl
  have hc := get_ok (number_any 10 pb Bs kb M s (by omega) _ hR0) ho.out
  go_enter Tryz.func65, Tryz.ntmps65
  go_wp2_with fail
  rw [← hwf]
  clear hwf
  refine hc.mono ?_
  rintro e w1 ⟨v, rfl, rfl, hb, hR1⟩
  have hX1 := hX0.over hR0 (by decide) hb
  have hC1 := hC0.over hR0 (by decide) hb
  have hN1 := hN0.next hb
  have hs1 := hb.size
  clear hc hB0 hR0 hX0 hC0 hN0 c0 hb
  obtain ⟨w2, hw2⟩ : ∃ w2, w2 = w1.alloc (.cells #[.int .u8 9, .int .i64 0, .int .i64 0, .int .i64 0, .int .i64 0] 42) := ⟨_, rfl⟩
  have hI2 : Blk w2 w1.heap.size 42 #[.int .u8 9, .int .i64 0, .int .i64 0, .int .i64 0, .int .i64 0] := by rw [hw2]; exact blk_new w1 _ _
  have hB2 : Below w1.heap.size w1 w2 := by rw [hw2]; exact (Below.refl _ w1).alloc (Nat.le_refl _) _
  have hR2 := hR1.later hB2 (Nat.le_refl _)
  have hX2 := hX1.later hB2 hX1.lt
  have hC2 := hC1.later hB2 hC1.lt
  have hN2 : RBut Bs M w w2 := hN1.next (But.of_below hB2 _)
  have d2 := hX2.cell (k := 2) (v := F3 kb) rfl
  have d0 := hI2.cell (k := 0) (v := .int .u8 9) rfl
  have hn : Calls Tryz.prog 75 #[.int .u8 9, .pointer (some ⟨kb, 0, none⟩)] w2 fun e w' => e = .returned (.agg #[.bool false, .bool false, .bool false, .bool true]) ∧ But [M] w2 w' ∧ Nmr w' kb M := named_op 9 kb M (by omega) w2 hR2.nm
  rw [hw2] at d0 d2
  clear hB2 hX1 hC1 hN1
  go_wp2_with fail
  rw [← hw2]
  clear hw2
  refine hn.mono ?_
  rintro e w3 ⟨rfl, hb3, hn3⟩
  obtain ⟨w4, hw4⟩ : ∃ w4, w4 = w3.alloc (.cells #[.bool false, .bool false, .bool false, .bool true] 99) := ⟨_, rfl⟩
  have hB4 : Below w3.heap.size w3 w4 := by rw [hw4]; exact (Below.refl _ w3).alloc (Nat.le_refl _) _
  have hF4 : Blk w4 w3.heap.size 99 #[.bool false, .bool false, .bool false, .bool true] := by rw [hw4]; exact blk_new w3 _ _
  have hG : GI w w4 pb Bs kb M w1.heap.size w3.heap.size s0 (9 : Int) 0 0 0 0 false false false true :=
    ⟨(hR2.named hb3 hn3).later hB4 (Nat.le_refl _), (hX2.named hR2.nm hb3).later hB4 (hX2.named hR2.nm hb3).lt, (hC2.named hR2.nm hb3).later hB4 (hC2.named hR2.nm hb3).lt, (hI2.named hR2.nm hb3).later hB4 (hI2.named hR2.nm hb3).lt, hF4, (hN2.next (hb3.mono (by simp))).next (But.of_below hB4 _), by omega⟩
  obtain ⟨⟨c0, c1, c2⟩, ⟨c3, c4, c5, c6, c7⟩, ⟨c8, c9, c10, c11⟩, c12, c13, c14, c15⟩ := hG.cells
  rw [hw4] at c0 c1 c2 c3 c4 c5 c6 c7 c8 c9 c10 c11 c12 c13 c14 c15
  clear hn hR2 hX2 hC2 hI2 hN2 hb3 hn3 hB4 hF4 hR1 d0 d2
  have hcall := signed_any pb Bs kb M s0 _ hG.R
  cases hr : rdI s0 with
  | none =>
    have hc := get_bad hcall hr
    have HO : Hid (rdIns 7 s = none) := Lib.hid (by simp [rdIns, rdOpt, fldA, fldB, fldC, fldK, namesOf, ho.out, hr])
    clear hr hcall
    go_wp2_with fail
    rw [← hw4]
    refine hc.mono ?_
    rintro e wz ⟨rfl, hb, s', hS⟩
    exact ⟨rfl, post_bad HO.out (hG.N.next hb) hS⟩
  | some qq =>
  obtain ⟨k, s1⟩ := qq
  have hc := get_ok hcall hr
  have p0 := Lib.hid hr
  clear hr hcall
  go_wp2_with fail
  rw [← hw4]
  clear hw4
  refine hc.mono ?_
  rintro e x1 ⟨v, rfl, rfl, hb, hR⟩
  replace hG := hG.over hb hR
  clear c0 c1 c2 c3 c4 c5 c6 c7 c8 c9 c10 c11 c12 c13 c14 c15
  obtain ⟨⟨c0, c1, c2⟩, ⟨c3, c4, c5, c6, c7⟩, ⟨c8, c9, c10, c11⟩, c12, c13, c14, c15⟩ := hG.cells
  have hG' : GI w (x1.setCell ⟨w1.heap.size, 4, none⟩ (.int .i64 k)) pb Bs kb M w1.heap.size w3.heap.size s1 (9 : Int) 0 0 0 k false false false true := hG.put But.cellset (hG.I.set 4 (.int .i64 k))
  obtain ⟨⟨e0, e1, e2⟩, ⟨e3, e4, e5, e6, e7⟩, ⟨e8, e9, e10, e11⟩, e12, e13, e14, e15⟩ := hG'.cells
  clear hc hR hb
  clear hG
  have hG := hG'
  clear hG'
  have HO : Hid (rdIns 7 s = some (⟨9, 0, 0, 0, k⟩, s1)) := Lib.hid (by simp [rdIns, rdOpt, fldA, fldB, fldC, fldK, namesOf, ho.out, p0.out])
  obtain ⟨⟨r0, r1, r2, r3, r4⟩, z0, z1, z2, z3, z4⟩ := hG.res
  obtain ⟨W', hW', q0, q1, q2, q3, q4, hR5, hN5⟩ := hG.done
  subst hW'
  clear hG
  go_wp2_with fail
  refine bodyPost_ret (v := .agg #[.int .u8 9, .int .i64 0, .int .i64 0, .int .i64 0, .int .i64 k]) (by simp [results, Tryz.f65, go_sem, q0, q1, q2, q3, q4]) rfl ?_
  exact post_ok HO.out rfl hN5 hR5

set_option maxRecDepth 100000 in
set_option maxHeartbeats 1600000 in
theorem getIns10 (pb Bs kb M : Nat) (s s0 : List UInt8) (w : World) (h : Rdr w pb Bs kb M s) (ho : Hid (rdN 10 s = some (10, s0))) :
    Calls Tryz.prog 65 #[.agg #[F1 pb, F2 pb, F3 kb]] w (GetPost w pb Bs kb M insRes (rdIns 7 s)) := by
  obtain ⟨wf, hwf⟩ : ∃ wf, wf = (w.alloc (.cells #[F1 pb, F2 pb, F3 kb] 61)).alloc (.cells #[.int .u8 0, .int .i64 0, .int .i64 0, .int .i64 0, .int .i64 0] 42) := ⟨_, rfl⟩
  have hB0 : Below w.heap.size w wf := by rw [hwf]; exact below2 w _ _
  have hsf : wf.heap.size = w.heap.size + 1 + 1 := by rw [hwf]; simp
  have hR0 := h.later hB0 (Nat.le_refl _)
  have hX0 : Blk wf w.heap.size 61 #[F1 pb, F2 pb, F3 kb] := by rw [hwf]; exact (blk_new w _ _).alloc _
  have hC0 : Blk wf (w.heap.size + 1) 42 #[.int .u8 0, .int .i64 0, .int .i64 0, .int .i64 0, .int .i64 0] := by rw [hwf]; exact blk_at (World.size_alloc _ _).symm
  have hN0 : RBut Bs M w wf := But.of_below hB0 _
  have c0 := hX0.cell (k := 0) (v := F1 pb) rfl
  have hc := get_ok (number_any 10 pb Bs kb M s (by omega) _ hR0) ho.out
  go_enter Tryz.func65, Tryz.ntmps65
  go_wp2_with fail
  rw [← hwf]
  clear hwf
  refine hc.mono ?_
  rintro e w1 ⟨v, rfl, rfl, hb, hR1⟩
  have hX1 := hX0.over hR0 (by decide) hb
  have hC1 := hC0.over hR0 (by decide) hb
  have hN1 := hN0.next hb
  have hs1 := hb.size
  clear hc hB0 hR0 hX0 hC0 hN0 c0 hb
  obtain ⟨w2, hw2⟩ : ∃ w2, w2 = w1.alloc (.cells #[.int .u8 10, .int .i64 0, .int .i64 0, .int .i64 0, .int .i64 0] 42) := ⟨_, rfl⟩
  have hI2 : Blk w2 w1.heap.size 42 #[.int .u8 10, .int .i64 0, .int .i64 0, .int .i64 0, .int .i64 0] := by rw [hw2]; exact blk_new w1 _ _
  have hB2 : Below w1.heap.size w1 w2 := by rw [hw2]; exact (Below.refl _ w1).alloc (Nat.le_refl _) _
  have hR2 := hR1.later hB2 (Nat.le_refl _)
  have hX2 := hX1.later hB2 hX1.lt
  have hC2 := hC1.later hB2 hC1.lt
  have hN2 : RBut Bs M w w2 := hN1.next (But.of_below hB2 _)
  have d2 := hX2.cell (k := 2) (v := F3 kb) rfl
  have d0 := hI2.cell (k := 0) (v := .int .u8 10) rfl
  have hn : Calls Tryz.prog 75 #[.int .u8 10, .pointer (some ⟨kb, 0, none⟩)] w2 fun e w' => e = .returned (.agg #[.bool false, .bool false, .bool false, .bool false]) ∧ But [M] w2 w' ∧ Nmr w' kb M := named_op 10 kb M (by omega) w2 hR2.nm
  rw [hw2] at d0 d2
  clear hB2 hX1 hC1 hN1
  go_wp2_with fail
  rw [← hw2]
  clear hw2
  refine hn.mono ?_
  rintro e w3 ⟨rfl, hb3, hn3⟩
  obtain ⟨w4, hw4⟩ : ∃ w4, w4 = w3.alloc (.cells #[.bool false, .bool false, .bool false, .bool false] 99) := ⟨_, rfl⟩
  have hB4 : Below w3.heap.size w3 w4 := by rw [hw4]; exact (Below.refl _ w3).alloc (Nat.le_refl _) _
  have hF4 : Blk w4 w3.heap.size 99 #[.bool false, .bool false, .bool false, .bool false] := by rw [hw4]; exact blk_new w3 _ _
  have hG : GI w w4 pb Bs kb M w1.heap.size w3.heap.size s0 (10 : Int) 0 0 0 0 false false false false :=
    ⟨(hR2.named hb3 hn3).later hB4 (Nat.le_refl _), (hX2.named hR2.nm hb3).later hB4 (hX2.named hR2.nm hb3).lt, (hC2.named hR2.nm hb3).later hB4 (hC2.named hR2.nm hb3).lt, (hI2.named hR2.nm hb3).later hB4 (hI2.named hR2.nm hb3).lt, hF4, (hN2.next (hb3.mono (by simp))).next (But.of_below hB4 _), by omega⟩
  obtain ⟨⟨c0, c1, c2⟩, ⟨c3, c4, c5, c6, c7⟩, ⟨c8, c9, c10, c11⟩, c12, c13, c14, c15⟩ := hG.cells
  rw [hw4] at c0 c1 c2 c3 c4 c5 c6 c7 c8 c9 c10 c11 c12 c13 c14 c15
  clear hn hR2 hX2 hC2 hI2 hN2 hb3 hn3 hB4 hF4 hR1 d0 d2
  have HO : Hid (rdIns 7 s = some (⟨10, 0, 0, 0, 0⟩, s0)) := Lib.hid (by simp [rdIns, rdOpt, fldA, fldB, fldC, fldK, namesOf, ho.out])
  obtain ⟨⟨r0, r1, r2, r3, r4⟩, z0, z1, z2, z3, z4⟩ := hG.res
  obtain ⟨W', hW', q0, q1, q2, q3, q4, hR5, hN5⟩ := hG.done
  subst hW'
  rw [hw4] at r0 r1 r2 r3 r4 z0 z1 z2 z3 z4 q0 q1 q2 q3 q4 hR5 hN5
  clear hG hw4
  go_wp2_with fail
  refine bodyPost_ret (v := .agg #[.int .u8 10, .int .i64 0, .int .i64 0, .int .i64 0, .int .i64 0]) (by simp [results, Tryz.f65, go_sem, q0, q1, q2, q3, q4]) rfl ?_
  exact post_ok HO.out rfl hN5 hR5

theorem getIns_any (pb Bs kb M : Nat) (s : List UInt8) (w : World) (h : Rdr w pb Bs kb M s) :
    Calls Tryz.prog 65 #[.agg #[F1 pb, F2 pb, F3 kb]] w (GetPost w pb Bs kb M insRes (rdIns 7 s)) := by
  cases hr : rdN 10 s with
  | none =>
    have HO : Hid (rdIns 7 s = none) := Lib.hid (by simp [rdIns, hr])
    obtain ⟨wf, hwf⟩ : ∃ wf, wf = (w.alloc (.cells #[F1 pb, F2 pb, F3 kb] 61)).alloc (.cells #[.int .u8 0, .int .i64 0, .int .i64 0, .int .i64 0, .int .i64 0] 42) := ⟨_, rfl⟩
    have hB0 : Below w.heap.size w wf := by rw [hwf]; exact below2 w _ _
    have hX0 : Blk wf w.heap.size 61 #[F1 pb, F2 pb, F3 kb] := by rw [hwf]; exact (blk_new w _ _).alloc _
    have c0 := hX0.cell (k := 0) (v := F1 pb) rfl
    have hc := get_bad (number_any 10 pb Bs kb M s (by omega) _ (h.later hB0 (Nat.le_refl _))) hr
    clear hr
    go_enter Tryz.func65, Tryz.ntmps65
    go_wp2_with fail
    rw [← hwf]
    refine hc.mono ?_
    rintro e w1 ⟨rfl, hb, s', hS⟩
    exact ⟨rfl, post_bad HO.out ((But.of_below hB0 _).next hb) hS⟩
  | some q =>
    obtain ⟨o, s0⟩ := q
    have hle := (rdN_some.1 hr).2
    have : o = 0 ∨ o = 1 ∨ o = 2 ∨ o = 3 ∨ o = 4 ∨ o = 5 ∨ o = 6 ∨ o = 7 ∨ o = 8 ∨ o = 9 ∨ o = 10 := by omega
    rcases this with rfl | rfl | rfl | rfl | rfl | rfl | rfl | rfl | rfl | rfl | rfl
    · exact getIns0 pb Bs kb M s s0 w h (Lib.hid hr)
    · exact getIns1 pb Bs kb M s s0 w h (Lib.hid hr)
    · exact getIns2 pb Bs kb M s s0 w h (Lib.hid hr)
    · exact getIns3 pb Bs kb M s s0 w h (Lib.hid hr)
    · exact getIns4 pb Bs kb M s s0 w h (Lib.hid hr)
    · exact getIns5 pb Bs kb M s s0 w h (Lib.hid hr)
    · exact getIns6 pb Bs kb M s s0 w h (Lib.hid hr)
    · exact getIns7 pb Bs kb M s s0 w h (Lib.hid hr)
    · exact getIns8 pb Bs kb M s s0 w h (Lib.hid hr)
    · exact getIns9 pb Bs kb M s s0 w h (Lib.hid hr)
    · exact getIns10 pb Bs kb M s s0 w h (Lib.hid hr)
end Go.Proofs.YtakgcienodigpaaGreat
