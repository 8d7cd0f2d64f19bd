/-
  The walks of getCase, getIns.
-/
import Derived.Test.YtakgcienodigpaaGreatKGetB
namespace Go.Proofs.YtakgcienodigpaaGreat
open Go.RowKit Oct

section
variable {W W' w : World} {pb Bs kb M B : Nat} {s : List UInt8} {t : TypeId} {cs : Array Value}
theorem Blk.over (h : Blk W B t cs) (hR : Rdr W pb Bs kb M s) (ht : t ≠ 9) (hb : RBut Bs M W W') : Blk W' B t cs := by
  have n1 := blk_ne h hR.st ht
  have n2 := map_apart hR.nm h
  exact (hb.block B h.lt (by simp; exact ⟨n1, n2⟩)).trans h
/-- A store into a block of another kind. -/
theorem Rdr.beside (hR : Rdr W pb Bs kb M s) (h : Blk W B t cs) (ht : t ≠ 63 ∧ t ≠ 9 ∧ t ≠ 123) (hb : But [B] W W') : Rdr W' pb Bs kb M s := by
  have n1 : pb ≠ B := (blk_ne h hR.pp ht.1).symm
  have n2 : Bs ≠ B := (blk_ne h hR.st ht.2.1).symm
  have n3 : kb ≠ B := (blk_ne h hR.nm.box ht.2.2).symm
  have n4 : M ≠ B := (map_apart hR.nm h).symm
  exact ⟨(hb.block pb hR.pp.lt (by simpa using n1)).trans hR.pp, (hb.block Bs hR.st.lt (by simpa using n2)).trans hR.st, ⟨(hb.block kb hR.nm.box.lt (by simpa using n3)).trans hR.nm.box, hR.nm.map.of_block (hb.block M hR.nm.lt.2 (by simpa using n4))⟩, hR.sz⟩
theorem But.cellset {k : Nat} {v : Value} : But [B] W (W.setCell ⟨B, k, none⟩ v) := (But.refl [B] W).set (p := ⟨B, k, none⟩) (.inl (by simp)) v
theorem rbut_own (h : RBut Bs M w W) (k : But [B] W W') (hB : w.heap.size ≤ B) : RBut Bs M w W' := h.own k (by simpa using hB)
end
theorem blk_set4 {W : World} {B : Nat} {t : TypeId} {a b c d : Value} (h : Blk W B t #[a, b, c, d]) (x y z u : Value) :
    Blk ((((W.setCell ⟨B, 0, none⟩ x).setCell ⟨B, 1, none⟩ y).setCell ⟨B, 2, none⟩ z).setCell ⟨B, 3, none⟩ u) B t #[x, y, z, u] ∧ But [B] W ((((W.setCell ⟨B, 0, none⟩ x).setCell ⟨B, 1, none⟩ y).setCell ⟨B, 2, none⟩ z).setCell ⟨B, 3, none⟩ u) :=
  ⟨(((h.set 0 x).set 1 y).set 2 z).set 3 u, ((((But.refl [B] W).set (p := ⟨B, 0, none⟩) (.inl (by simp)) _).set (p := ⟨B, 1, none⟩) (.inl (by simp)) _).set (p := ⟨B, 2, none⟩) (.inl (by simp)) _).set (p := ⟨B, 3, none⟩) (.inl (by simp)) _⟩
theorem blk_set5 {W : World} {B : Nat} {t : TypeId} {a b c d e : Value} (h : Blk W B t #[a, b, c, d, e]) (x y z u v : Value) :
    Blk (((((W.setCell ⟨B, 0, none⟩ x).setCell ⟨B, 1, none⟩ y).setCell ⟨B, 2, none⟩ z).setCell ⟨B, 3, none⟩ u).setCell ⟨B, 4, none⟩ v) B t #[x, y, z, u, v] ∧ But [B] W (((((W.setCell ⟨B, 0, none⟩ x).setCell ⟨B, 1, none⟩ y).setCell ⟨B, 2, none⟩ z).setCell ⟨B, 3, none⟩ u).setCell ⟨B, 4, none⟩ v) :=
  ⟨((((h.set 0 x).set 1 y).set 2 z).set 3 u).set 4 v, (((((But.refl [B] W).set (p := ⟨B, 0, none⟩) (.inl (by simp)) _).set (p := ⟨B, 1, none⟩) (.inl (by simp)) _).set (p := ⟨B, 2, none⟩) (.inl (by simp)) _).set (p := ⟨B, 3, none⟩) (.inl (by simp)) _).set (p := ⟨B, 4, none⟩) (.inl (by simp)) _⟩

set_option maxRecDepth 100000 in
set_option maxHeartbeats 1600000 in
theorem getCase_any (pb Bs kb M : Nat) (s : List UInt8) (w : World) (h : Rdr w pb Bs kb M s) :
    Calls Tryz.prog 63 #[.agg #[F1 pb, F2 pb, F3 kb]] w (GetPost w pb Bs kb M (fun _ v (x : Cas) => v = .agg #[.bool x.s, .int .i64 x.c, .int .i64 x.v, .int .i64 x.o]) (rdCase 7 s)) := by
  obtain ⟨wf, hwf⟩ : ∃ wf, wf = (w.alloc (.cells #[F1 pb, F2 pb, F3 kb] 61)).alloc (.cells #[.bool false, .int .i64 0, .int .i64 0, .int .i64 0] 52) := ⟨_, rfl⟩
  have hB0 : Below w.heap.size w wf := by rw [hwf]; exact below2 w _ _
  have hR0 := h.later hB0 (Nat.le_refl _)
  have hX0 : Blk wf w.heap.size 61 #[F1 pb, F2 pb, F3 kb] := by rw [hwf]; exact (blk_new w _ _).alloc _
  have hC0 : Blk wf (w.heap.size + 1) 52 #[.bool false, .int .i64 0, .int .i64 0, .int .i64 0] := by rw [hwf]; exact blk_at (World.size_alloc _ _).symm
  have hN0 : RBut Bs M w wf := But.of_below hB0 _
  go_enter Tryz.func63, Tryz.ntmps63
  have c00 := hX0.cell (k := 0) (v := F1 pb) rfl
  have c01 := hX0.cell (k := 1) (v := F2 pb) rfl
  have c02 := hX0.cell (k := 2) (v := F3 kb) rfl
  have hc0 := getFlag_any pb Bs kb M s _ hR0
  cases ho0 : rdF s with
  | none =>
    have hc := get_bad hc0 ho0
    have HO : Hid (rdCase 7 s = none) := Lib.hid (by simp [rdCase, ho0])
    clear ho0 hc0
    go_wp2_with fail
    rw [← hwf]
    refine hc.mono ?_
    rintro e w1 ⟨rfl, hb, s', hS⟩
    exact ⟨rfl, post_bad HO.out (hN0.next hb) hS⟩
  | some q0 =>
  obtain ⟨a, s1⟩ := q0
  have hc := get_ok hc0 ho0
  have p0 := Lib.hid ho0
  clear ho0 hc0
  go_wp2_with fail
  rw [← hwf]
  clear hwf
  refine hc.mono ?_
  rintro e w1 ⟨v0, rfl, rfl, hb, hR⟩
  have hX := hX0.over hR0 (by decide) hb
  have hC := hC0.over hR0 (by decide) hb
  have hN := hN0.next hb
  have d0 := hC.cell (k := 0) (v := .bool false) rfl
  have f0 := hC.frozen 0
  have hC1 := hC.set 0 (.bool a)
  have hcs := But.cellset (W := w1) (B := w.heap.size + 1) (k := 0) (v := .bool a)
  have hR1 := hR.beside hC (by decide) hcs
  have hX1 : Blk (w1.setCell ⟨w.heap.size + 1, 0, none⟩ (.bool a)) w.heap.size 61 #[F1 pb, F2 pb, F3 kb] := (hcs.block _ hX.lt (by simp)).trans hX
  have hN1 := rbut_own hN hcs (by simp)
  clear hc hb hX hC hR hN hcs hX0 hC0 hR0 hN0 c00 c01 c02
  have c10 := hX1.cell (k := 0) (v := F1 pb) rfl
  have c11 := hX1.cell (k := 1) (v := F2 pb) rfl
  have c12 := hX1.cell (k := 2) (v := F3 kb) rfl
  have hc1 := getChannel_any pb Bs kb M s1 _ hR1
  cases ho1 : rdC s1 with
  | none =>
    have hc := get_bad hc1 ho1
    have HO : Hid (rdCase 7 s = none) := Lib.hid (by simp [rdCase, p0.out, ho1])
    clear ho1 hc1
    go_wp2_with fail
    refine hc.mono ?_
    rintro e w1 ⟨rfl, hb, s', hS⟩
    exact ⟨rfl, post_bad HO.out (hN1.next hb) hS⟩
  | some q1 =>
  obtain ⟨c, s2⟩ := q1
  have hc := get_ok hc1 ho1
  have p1 := Lib.hid ho1
  clear ho1 hc1
  go_wp2_with fail
  refine hc.mono ?_
  rintro e w2 ⟨v1, rfl, rfl, hb, hR⟩
  have hX := hX1.over hR1 (by decide) hb
  have hC := hC1.over hR1 (by decide) hb
  have hN := hN1.next hb
  have d1 := hC.cell (k := 1) (v := .int .i64 0) rfl
  have f1 := hC.frozen 1
  have hC2 := hC.set 1 (.int .i64 c)
  have hcs := But.cellset (W := w2) (B := w.heap.size + 1) (k := 1) (v := .int .i64 c)
  have hR2 := hR.beside hC (by decide) hcs
  have hX2 : Blk (w2.setCell ⟨w.heap.size + 1, 1, none⟩ (.int .i64 c)) w.heap.size 61 #[F1 pb, F2 pb, F3 kb] := (hcs.block _ hX.lt (by simp)).trans hX
  have hN2 := rbut_own hN hcs (by simp)
  clear hc hb hX hC hR hN hcs hX1 hC1 hR1 hN1 c10 c11 c12
  have c20 := hX2.cell (k := 0) (v := F1 pb) rfl
  have c21 := hX2.cell (k := 1) (v := F2 pb) rfl
  have c22 := hX2.cell (k := 2) (v := F3 kb) rfl
  have hc2 := getRegister_any pb Bs kb M s2 _ hR2
  cases ho2 : rdZ 7 s2 with
  | none =>
    have hc := get_bad hc2 ho2
    have HO : Hid (rdCase 7 s = none) := Lib.hid (by simp [rdCase, p0.out, p1.out, ho2])
    clear ho2 hc2
    go_wp2_with fail
    refine hc.mono ?_
    rintro e w1 ⟨rfl, hb, s', hS⟩
    exact ⟨rfl, post_bad HO.out (hN2.next hb) hS⟩
  | some q2 =>
  obtain ⟨v, s3⟩ := q2
  have hc := get_ok hc2 ho2
  have p2 := Lib.hid ho2
  clear ho2 hc2
  go_wp2_with fail
  refine hc.mono ?_
  rintro e w3 ⟨v2, rfl, rfl, hb, hR⟩
  have hX := hX2.over hR2 (by decide) hb
  have hC := hC2.over hR2 (by decide) hb
  have hN := hN2.next hb
  have d2 := hC.cell (k := 2) (v := .int .i64 0) rfl
  have f2 := hC.frozen 2
  have hC3 := hC.set 2 (.int .i64 v)
  have hcs := But.cellset (W := w3) (B := w.heap.size + 1) (k := 2) (v := .int .i64 v)
  have hR3 := hR.beside hC (by decide) hcs
  have hX3 : Blk (w3.setCell ⟨w.heap.size + 1, 2, none⟩ (.int .i64 v)) w.heap.size 61 #[F1 pb, F2 pb, F3 kb] := (hcs.block _ hX.lt (by simp)).trans hX
  have hN3 := rbut_own hN hcs (by simp)
  clear hc hb hX hC hR hN hcs hX2 hC2 hR2 hN2 c20 c21 c22
  have c30 := hX3.cell (k := 0) (v := F1 pb) rfl
  have c31 := hX3.cell (k := 1) (v := F2 pb) rfl
  have c32 := hX3.cell (k := 2) (v := F3 kb) rfl
  have hc3 := getRegister_any pb Bs kb M s3 _ hR3
  cases ho3 : rdZ 7 s3 with
  | none =>
    have hc := get_bad hc3 ho3
    have HO : Hid (rdCase 7 s = none) := Lib.hid (by simp [rdCase, p0.out, p1.out, p2.out, ho3])
    clear ho3 hc3
    go_wp2_with fail
    refine hc.mono ?_
    rintro e w1 ⟨rfl, hb, s', hS⟩
    exact ⟨rfl, post_bad HO.out (hN3.next hb) hS⟩
  | some q3 =>
  obtain ⟨o, s4⟩ := q3
  have hc := get_ok hc3 ho3
  have p3 := Lib.hid ho3
  clear ho3 hc3
  go_wp2_with fail
  refine hc.mono ?_
  rintro e w4 ⟨v3, rfl, rfl, hb, hR⟩
  have hX := hX3.over hR3 (by decide) hb
  have hC := hC3.over hR3 (by decide) hb
  have hN := hN3.next hb
  have d3 := hC.cell (k := 3) (v := .int .i64 0) rfl
  have f3 := hC.frozen 3
  have hC4 := hC.set 3 (.int .i64 o)
  have hcs := But.cellset (W := w4) (B := w.heap.size + 1) (k := 3) (v := .int .i64 o)
  have hR4 := hR.beside hC (by decide) hcs
  have hX4 : Blk (w4.setCell ⟨w.heap.size + 1, 3, none⟩ (.int .i64 o)) w.heap.size 61 #[F1 pb, F2 pb, F3 kb] := (hcs.block _ hX.lt (by simp)).trans hX
  have hN4 := rbut_own hN hcs (by simp)
  clear hc hb hX hC hR hN hcs hX3 hC3 hR3 hN3 c30 c31 c32
  simp only [List.setIfInBounds_toArray, List.set_cons_zero, List.set_cons_succ] at hC4
  have HO : Hid (rdCase 7 s = some (⟨a, c, v, o⟩, s4)) := Lib.hid (by simp [rdCase, p0.out, p1.out, p2.out, p3.out])
  have e0 := hC4.cell (k := 0) (v := .bool a) rfl
  have e1 := hC4.cell (k := 1) (v := .int .i64 c) rfl
  have e2 := hC4.cell (k := 2) (v := .int .i64 v) rfl
  have e3 := hC4.cell (k := 3) (v := .int .i64 o) rfl
  have g0 := hC4.frozen 0
  have g1 := hC4.frozen 1
  have g2 := hC4.frozen 2
  have g3 := hC4.frozen 3
  obtain ⟨hC5, hcs⟩ := blk_set4 hC4 (.bool a) (.int .i64 c) (.int .i64 v) (.int .i64 o)
  have q0 := hC5.cell (k := 0) (v := .bool a) rfl
  have q1 := hC5.cell (k := 1) (v := .int .i64 c) rfl
  have q2 := hC5.cell (k := 2) (v := .int .i64 v) rfl
  have q3 := hC5.cell (k := 3) (v := .int .i64 o) rfl
  have hR5 := hR4.beside hC4 (by decide) hcs
  have hN5 := rbut_own hN4 hcs (by simp)
  clear hC5 hcs hC4 hR4 hN4 hX4
  go_wp2_with fail
  refine bodyPost_ret (v := .agg #[.bool a, .int .i64 c, .int .i64 v, .int .i64 o]) (by simp [results, Tryz.f63, go_sem, q0, q1, q2, q3]) rfl ?_
  exact post_ok HO.out rfl hN5 hR5
end Go.Proofs.YtakgcienodigpaaGreat
