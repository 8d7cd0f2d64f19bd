/-
  The walks of the document's num, flag; of one, kind by kind.
-/
import Derived.Test.YtakgcienodigpaaGreatQRefA
import Derived.Test.YtakgcienodigpaaGreatRefInts
import Derived.Test.YtakgcienodigpaaGreatKPutAll
namespace Go.Proofs.YtakgcienodigpaaGreat
open Go.RowKit Oct

theorem rnum_any (n : Nat) (w : World) (hn : n < 9223372036854775808) :
    Calls Tryz.prog 19 #[.int .i64 (n : Int)] w fun e w' => e = .returned (.string ⟨(numL n).toArray⟩) ∧ Below w.heap.size w w' := by
  have hw1 : IntKind.u64.wrap (n : Int) = (n : Int) := by rw [IntKind.wrap_u64]; omega
  go_enter Tryz.func19, Tryz.ntmps19
  go_wp2_with fail
  refine (refNum_any n _ (by omega)).mono ?_
  rintro e w1 ⟨rfl, hb⟩
  go_wp2_with fail
  go_ret
  exact ⟨rfl, hb⟩
theorem rnumZ_any (v : Int) (w : World) (h0 : 0 ≤ v) (h : I64b v) :
    Calls Tryz.prog 19 #[.int .i64 v] w fun e w' => e = .returned (.string ⟨(numZ v).toArray⟩) ∧ Below w.heap.size w w' := by
  obtain ⟨n, rfl⟩ := Int.eq_ofNat_of_zero_le h0
  unfold numZ
  rw [Int.toNat_natCast]
  exact rnum_any n w (by have := h.2; omega)
theorem rflag_any (b : Bool) (w : World) :
    Calls Tryz.prog 20 #[.bool b] w fun e w' => e = .returned (.string ⟨(flagL b).toArray⟩) ∧ Below w.heap.size w w' := by
  have h0 := fun W => rnum_any 0 W (by omega)
  have h1 := fun W => rnum_any 1 W (by omega)
  cases b
  · go_enter Tryz.func20, Tryz.ntmps20
    go_wp2_with fail
    refine (h0 _).mono ?_
    rintro e w1 ⟨rfl, hb⟩
    go_wp2_with fail
    go_ret
    exact ⟨rfl, hb⟩
  · go_enter Tryz.func20, Tryz.ntmps20
    go_wp2_with fail
    refine (h1 _).mono ?_
    rintro e w1 ⟨rfl, hb⟩
    go_wp2_with fail
    go_ret
    exact ⟨rfl, hb⟩

/-- The two boxes of one: the instruction, and what its kind names. -/
structure QB (w wf : World) (n o : Nat) (a b c k : Int) (p q r s : Bool) : Prop where
  b0 : Below w.heap.size w wf
  x : Blk wf w.heap.size 42 #[.int .u8 (o : Int), .int .i64 a, .int .i64 b, .int .i64 c, .int .i64 k]
  y : Blk wf n 104 #[.bool p, .bool q, .bool r, .bool s]
theorem qcells {w W : World} {n o : Nat} {a b c k : Int} {p q r s : Bool} (h : QB w W n o a b c k p q r s) : W.cell? ⟨w.heap.size, 0, none⟩ = some (.int .u8 (o : Int)) ∧ W.cell? ⟨w.heap.size, 1, none⟩ = some (.int .i64 a) ∧ W.cell? ⟨w.heap.size, 2, none⟩ = some (.int .i64 b) ∧ W.cell? ⟨w.heap.size, 3, none⟩ = some (.int .i64 c) ∧ W.cell? ⟨w.heap.size, 4, none⟩ = some (.int .i64 k) ∧
    W.cell? ⟨n, 0, none⟩ = some (.bool p) ∧ W.cell? ⟨n, 1, none⟩ = some (.bool q) ∧ W.cell? ⟨n, 2, none⟩ = some (.bool r) ∧ W.cell? ⟨n, 3, none⟩ = some (.bool s) :=
  ⟨h.x.cell rfl, h.x.cell rfl, h.x.cell rfl, h.x.cell rfl, h.x.cell rfl, h.y.cell rfl, h.y.cell rfl, h.y.cell rfl, h.y.cell rfl⟩
theorem QB.next {w W W' : World} {n o : Nat} {a b c k : Int} {p q r s : Bool} (h : QB w W n o a b c k p q r s) (hb : Below W.heap.size W W') : QB w W' n o a b c k p q r s :=
  ⟨below_next h.b0 hb (Nat.le_refl _), h.x.later hb h.x.lt, h.y.later hb h.y.lt⟩

set_option maxRecDepth 100000 in
set_option maxHeartbeats 800000 in
theorem one1 (a b c k : Int) (w : World) (a0 : 0 ≤ a) (ab : I64b a) (kb : I64b k) :
    Calls Tryz.prog 21 #[.agg #[.int .u8 1, .int .i64 a, .int .i64 b, .int .i64 c, .int .i64 k]] w fun e w' => e = .returned (.string ⟨(numL 1 ++ numZ a ++ numL (foldN k)).toArray⟩) ∧ Below w.heap.size w w' := by
  obtain ⟨wf, hwf⟩ : ∃ wf, wf = w.alloc (.cells #[.int .u8 1, .int .i64 a, .int .i64 b, .int .i64 c, .int .i64 k] 42) := ⟨_, rfl⟩
  have hX : Blk wf w.heap.size 42 #[.int .u8 1, .int .i64 a, .int .i64 b, .int .i64 c, .int .i64 k] := by rw [hwf]; exact blk_new w _ _
  have hB0 : Below w.heap.size w wf := by rw [hwf]; exact (Below.refl _ w).alloc (Nat.le_refl _) _
  have x0 := hX.cell (k := 0) (v := .int .u8 1) rfl
  have hof : ∀ W, Calls Tryz.prog 53 #[.int .u8 1] W fun e w' => e = .returned (.agg #[.bool true, .bool false, .bool false, .bool true]) ∧ Below W.heap.size W w' := fun W => (of_any 1 W).mono fun e w' ⟨h1, h2⟩ => ⟨h1, h2.below (Nat.le_refl _) (by simp)⟩
  have c0p : ∀ W, Calls Tryz.prog 19 #[.int .i64 1] W fun e w' => e = .returned (.string ⟨(numL 1).toArray⟩) ∧ Below W.heap.size W w' := fun W => rnum_any 1 W (by omega)
  have m0 : (numL 1).length ≤ 10 := num10 (by omega)
  have m1 := numZ10 a0 ab
  have m2 := fold10 kb
  have s1 : ¬ 9223372036854775807 < (numL 1).length + (numZ a).length := by omega
  have s2 : ¬ 9223372036854775807 < (numL 1).length + (numZ a).length + (numL (foldN k)).length := by omega
  clear m0 m1 m2
  rw [hwf] at x0
  go_enter Tryz.func21, Tryz.ntmps21
  go_wp2_with fail
  rw [← hwf]
  clear hwf x0
  refine (hof _).mono ?_
  rintro e w1 ⟨rfl, hb1⟩
  clear hof
  obtain ⟨wg, hwg⟩ : ∃ wg, wg = w1.alloc (.cells #[.bool true, .bool false, .bool false, .bool true] 104) := ⟨_, rfl⟩
  have hbg : Below w1.heap.size w1 wg := by rw [hwg]; exact (Below.refl _ w1).alloc (Nat.le_refl _) _
  have hP : QB w wg w1.heap.size 1 a b c k true false false true := ⟨below_next (below_next hB0 hb1 (Nat.le_refl _)) hbg (Nat.le_refl _), (hX.later hb1 hX.lt).later hbg (hX.later hb1 hX.lt).lt, by rw [hwg]; exact blk_new w1 _ _⟩
  clear hX hB0 hb1 hbg
  obtain ⟨q0, q1, q2, q3, q4, q5, q6, q7, q8⟩ := qcells hP
  rw [hwg] at q0 q1 q2 q3 q4 q5 q6 q7 q8
  go_wp2_with fail
  rw [← hwg]
  clear hwg
  refine (c0p _).mono ?_
  rintro e w2 ⟨rfl, hb⟩
  replace hP := hP.next hb
  clear hb q0 q1 q2 q3 q4 q5 q6 q7 q8
  obtain ⟨q0, q1, q2, q3, q4, q5, q6, q7, q8⟩ := qcells hP
  go_wp2_with fail
  refine (rnumZ_any _ _ a0 ab).mono ?_
  rintro e w3 ⟨rfl, hb⟩
  replace hP := hP.next hb
  clear hb q0 q1 q2 q3 q4 q5 q6 q7 q8
  obtain ⟨q0, q1, q2, q3, q4, q5, q6, q7, q8⟩ := qcells hP
  go_wp2_with fail
  refine (refInt_any _ _ kb.1 kb.2).mono ?_
  rintro e w4 ⟨rfl, hb⟩
  replace hP := hP.next hb
  clear hb q0 q1 q2 q3 q4 q5 q6 q7 q8
  obtain ⟨q0, q1, q2, q3, q4, q5, q6, q7, q8⟩ := qcells hP
  go_wp2_with fail
  go_ret
  exact ⟨ret_v (by simp only [str_app]; rfl), hP.b0⟩

set_option maxRecDepth 100000 in
set_option maxHeartbeats 800000 in
theorem one2 (a b c k : Int) (w : World) (a0 : 0 ≤ a) (ab : I64b a) (b0 : 0 ≤ b) (bb : I64b b) :
    Calls Tryz.prog 21 #[.agg #[.int .u8 2, .int .i64 a, .int .i64 b, .int .i64 c, .int .i64 k]] w fun e w' => e = .returned (.string ⟨(numL 2 ++ numZ a ++ numZ b).toArray⟩) ∧ Below w.heap.size w w' := by
  obtain ⟨wf, hwf⟩ : ∃ wf, wf = w.alloc (.cells #[.int .u8 2, .int .i64 a, .int .i64 b, .int .i64 c, .int .i64 k] 42) := ⟨_, rfl⟩
  have hX : Blk wf w.heap.size 42 #[.int .u8 2, .int .i64 a, .int .i64 b, .int .i64 c, .int .i64 k] := by rw [hwf]; exact blk_new w _ _
  have hB0 : Below w.heap.size w wf := by rw [hwf]; exact (Below.refl _ w).alloc (Nat.le_refl _) _
  have x0 := hX.cell (k := 0) (v := .int .u8 2) rfl
  have hof : ∀ W, Calls Tryz.prog 53 #[.int .u8 2] W fun e w' => e = .returned (.agg #[.bool true, .bool true, .bool false, .bool false]) ∧ Below W.heap.size W w' := fun W => (of_any 2 W).mono fun e w' ⟨h1, h2⟩ => ⟨h1, h2.below (Nat.le_refl _) (by simp)⟩
  have c0p : ∀ W, Calls Tryz.prog 19 #[.int .i64 2] W fun e w' => e = .returned (.string ⟨(numL 2).toArray⟩) ∧ Below W.heap.size W w' := fun W => rnum_any 2 W (by omega)
  have m0 : (numL 2).length ≤ 10 := num10 (by omega)
  have m1 := numZ10 a0 ab
  have m2 := numZ10 b0 bb
  have s1 : ¬ 9223372036854775807 < (numL 2).length + (numZ a).length := by omega
  have s2 : ¬ 9223372036854775807 < (numL 2).length + (numZ a).length + (numZ b).length := by omega
  clear m0 m1 m2
  rw [hwf] at x0
  go_enter Tryz.func21, Tryz.ntmps21
  go_wp2_with fail
  rw [← hwf]
  clear hwf x0
  refine (hof _).mono ?_
  rintro e w1 ⟨rfl, hb1⟩
  clear hof
  obtain ⟨wg, hwg⟩ : ∃ wg, wg = w1.alloc (.cells #[.bool true, .bool true, .bool false, .bool false] 104) := ⟨_, rfl⟩
  have hbg : Below w1.heap.size w1 wg := by rw [hwg]; exact (Below.refl _ w1).alloc (Nat.le_refl _) _
  have hP : QB w wg w1.heap.size 2 a b c k true true false false := ⟨below_next (below_next hB0 hb1 (Nat.le_refl _)) hbg (Nat.le_refl _), (hX.later hb1 hX.lt).later hbg (hX.later hb1 hX.lt).lt, by rw [hwg]; exact blk_new w1 _ _⟩
  clear hX hB0 hb1 hbg
  obtain ⟨q0, q1, q2, q3, q4, q5, q6, q7, q8⟩ := qcells hP
  rw [hwg] at q0 q1 q2 q3 q4 q5 q6 q7 q8
  go_wp2_with fail
  rw [← hwg]
  clear hwg
  refine (c0p _).mono ?_
  rintro e w2 ⟨rfl, hb⟩
  replace hP := hP.next hb
  clear hb q0 q1 q2 q3 q4 q5 q6 q7 q8
  obtain ⟨q0, q1, q2, q3, q4, q5, q6, q7, q8⟩ := qcells hP
  go_wp2_with fail
  refine (rnumZ_any _ _ a0 ab).mono ?_
  rintro e w3 ⟨rfl, hb⟩
  replace hP := hP.next hb
  clear hb q0 q1 q2 q3 q4 q5 q6 q7 q8
  obtain ⟨q0, q1, q2, q3, q4, q5, q6, q7, q8⟩ := qcells hP
  go_wp2_with fail
  refine (rnumZ_any _ _ b0 bb).mono ?_
  rintro e w4 ⟨rfl, hb⟩
  replace hP := hP.next hb
  clear hb q0 q1 q2 q3 q4 q5 q6 q7 q8
  obtain ⟨q0, q1, q2, q3, q4, q5, q6, q7, q8⟩ := qcells hP
  go_wp2_with fail
  go_ret
  exact ⟨ret_v (by simp only [str_app]; rfl), hP.b0⟩

set_option maxRecDepth 100000 in
set_option maxHeartbeats 800000 in
theorem one3 (a b c k : Int) (w : World) (kb : I64b k) :
    Calls Tryz.prog 21 #[.agg #[.int .u8 3, .int .i64 a, .int .i64 b, .int .i64 c, .int .i64 k]] w fun e w' => e = .returned (.string ⟨(numL 3 ++ numL (foldN k)).toArray⟩) ∧ Below w.heap.size w w' := by
  obtain ⟨wf, hwf⟩ : ∃ wf, wf = w.alloc (.cells #[.int .u8 3, .int .i64 a, .int .i64 b, .int .i64 c, .int .i64 k] 42) := ⟨_, rfl⟩
  have hX : Blk wf w.heap.size 42 #[.int .u8 3, .int .i64 a, .int .i64 b, .int .i64 c, .int .i64 k] := by rw [hwf]; exact blk_new w _ _
  have hB0 : Below w.heap.size w wf := by rw [hwf]; exact (Below.refl _ w).alloc (Nat.le_refl _) _
  have x0 := hX.cell (k := 0) (v := .int .u8 3) rfl
  have hof : ∀ W, Calls Tryz.prog 53 #[.int .u8 3] W fun e w' => e = .returned (.agg #[.bool false, .bool false, .bool false, .bool true]) ∧ Below W.heap.size W w' := fun W => (of_any 3 W).mono fun e w' ⟨h1, h2⟩ => ⟨h1, h2.below (Nat.le_refl _) (by simp)⟩
  have c0p : ∀ W, Calls Tryz.prog 19 #[.int .i64 3] W fun e w' => e = .returned (.string ⟨(numL 3).toArray⟩) ∧ Below W.heap.size W w' := fun W => rnum_any 3 W (by omega)
  have m0 : (numL 3).length ≤ 10 := num10 (by omega)
  have m1 := fold10 kb
  have s1 : ¬ 9223372036854775807 < (numL 3).length + (numL (foldN k)).length := by omega
  clear m0 m1
  rw [hwf] at x0
  go_enter Tryz.func21, Tryz.ntmps21
  go_wp2_with fail
  rw [← hwf]
  clear hwf x0
  refine (hof _).mono ?_
  rintro e w1 ⟨rfl, hb1⟩
  clear hof
  obtain ⟨wg, hwg⟩ : ∃ wg, wg = w1.alloc (.cells #[.bool false, .bool false, .bool false, .bool true] 104) := ⟨_, rfl⟩
  have hbg : Below w1.heap.size w1 wg := by rw [hwg]; exact (Below.refl _ w1).alloc (Nat.le_refl _) _
  have hP : QB w wg w1.heap.size 3 a b c k false false false true := ⟨below_next (below_next hB0 hb1 (Nat.le_refl _)) hbg (Nat.le_refl _), (hX.later hb1 hX.lt).later hbg (hX.later hb1 hX.lt).lt, by rw [hwg]; exact blk_new w1 _ _⟩
  clear hX hB0 hb1 hbg
  obtain ⟨q0, q1, q2, q3, q4, q5, q6, q7, q8⟩ := qcells hP
  rw [hwg] at q0 q1 q2 q3 q4 q5 q6 q7 q8
  go_wp2_with fail
  rw [← hwg]
  clear hwg
  refine (c0p _).mono ?_
  rintro e w2 ⟨rfl, hb⟩
  replace hP := hP.next hb
  clear hb q0 q1 q2 q3 q4 q5 q6 q7 q8
  obtain ⟨q0, q1, q2, q3, q4, q5, q6, q7, q8⟩ := qcells hP
  go_wp2_with fail
  refine (refInt_any _ _ kb.1 kb.2).mono ?_
  rintro e w3 ⟨rfl, hb⟩
  replace hP := hP.next hb
  clear hb q0 q1 q2 q3 q4 q5 q6 q7 q8
  obtain ⟨q0, q1, q2, q3, q4, q5, q6, q7, q8⟩ := qcells hP
  go_wp2_with fail
  go_ret
  exact ⟨ret_v (by simp only [str_app]; rfl), hP.b0⟩

set_option maxRecDepth 100000 in
set_option maxHeartbeats 800000 in
theorem one4 (a b c k : Int) (w : World) (a0 : 0 ≤ a) (ab : I64b a) (kb : I64b k) :
    Calls Tryz.prog 21 #[.agg #[.int .u8 4, .int .i64 a, .int .i64 b, .int .i64 c, .int .i64 k]] w fun e w' => e = .returned (.string ⟨(numL 4 ++ numZ a ++ numL (foldN k)).toArray⟩) ∧ Below w.heap.size w w' := by
  obtain ⟨wf, hwf⟩ : ∃ wf, wf = w.alloc (.cells #[.int .u8 4, .int .i64 a, .int .i64 b, .int .i64 c, .int .i64 k] 42) := ⟨_, rfl⟩
  have hX : Blk wf w.heap.size 42 #[.int .u8 4, .int .i64 a, .int .i64 b, .int .i64 c, .int .i64 k] := by rw [hwf]; exact blk_new w _ _
  have hB0 : Below w.heap.size w wf := by rw [hwf]; exact (Below.refl _ w).alloc (Nat.le_refl _) _
  have x0 := hX.cell (k := 0) (v := .int .u8 4) rfl
  have hof : ∀ W, Calls Tryz.prog 53 #[.int .u8 4] W fun e w' => e = .returned (.agg #[.bool true, .bool false, .bool false, .bool true]) ∧ Below W.heap.size W w' := fun W => (of_any 4 W).mono fun e w' ⟨h1, h2⟩ => ⟨h1, h2.below (Nat.le_refl _) (by simp)⟩
  have c0p : ∀ W, Calls Tryz.prog 19 #[.int .i64 4] W fun e w' => e = .returned (.string ⟨(numL 4).toArray⟩) ∧ Below W.heap.size W w' := fun W => rnum_any 4 W (by omega)
  have m0 : (numL 4).length ≤ 10 := num10 (by omega)
  have m1 := numZ10 a0 ab
  have m2 := fold10 kb
  have s1 : ¬ 9223372036854775807 < (numL 4).length + (numZ a).length := by omega
  have s2 : ¬ 9223372036854775807 < (numL 4).length + (numZ a).length + (numL (foldN k)).length := by omega
  clear m0 m1 m2
  rw [hwf] at x0
  go_enter Tryz.func21, Tryz.ntmps21
  go_wp2_with fail
  rw [← hwf]
  clear hwf x0
  refine (hof _).mono ?_
  rintro e w1 ⟨rfl, hb1⟩
  clear hof
  obtain ⟨wg, hwg⟩ : ∃ wg, wg = w1.alloc (.cells #[.bool true, .bool false, .bool false, .bool true] 104) := ⟨_, rfl⟩
  have hbg : Below w1.heap.size w1 wg := by rw [hwg]; exact (Below.refl _ w1).alloc (Nat.le_refl _) _
  have hP : QB w wg w1.heap.size 4 a b c k true false false true := ⟨below_next (below_next hB0 hb1 (Nat.le_refl _)) hbg (Nat.le_refl _), (hX.later hb1 hX.lt).later hbg (hX.later hb1 hX.lt).lt, by rw [hwg]; exact blk_new w1 _ _⟩
  clear hX hB0 hb1 hbg
  obtain ⟨q0, q1, q2, q3, q4, q5, q6, q7, q8⟩ := qcells hP
  rw [hwg] at q0 q1 q2 q3 q4 q5 q6 q7 q8
  go_wp2_with fail
  rw [← hwg]
  clear hwg
  refine (c0p _).mono ?_
  rintro e w2 ⟨rfl, hb⟩
  replace hP := hP.next hb
  clear hb q0 q1 q2 q3 q4 q5 q6 q7 q8
  obtain ⟨q0, q1, q2, q3, q4, q5, q6, q7, q8⟩ := qcells hP
  go_wp2_with fail
  refine (rnumZ_any _ _ a0 ab).mono ?_
  rintro e w3 ⟨rfl, hb⟩
  replace hP := hP.next hb
  clear hb q0 q1 q2 q3 q4 q5 q6 q7 q8
  obtain ⟨q0, q1, q2, q3, q4, q5, q6, q7, q8⟩ := qcells hP
  go_wp2_with fail
  refine (refInt_any _ _ kb.1 kb.2).mono ?_
  rintro e w4 ⟨rfl, hb⟩
  replace hP := hP.next hb
  clear hb q0 q1 q2 q3 q4 q5 q6 q7 q8
  obtain ⟨q0, q1, q2, q3, q4, q5, q6, q7, q8⟩ := qcells hP
  go_wp2_with fail
  go_ret
  exact ⟨ret_v (by simp only [str_app]; rfl), hP.b0⟩

set_option maxRecDepth 100000 in
set_option maxHeartbeats 800000 in
theorem one5 (a b c k : Int) (w : World) (a0 : 0 ≤ a) (ab : I64b a) (c0 : -1 ≤ c) (c5 : c ≤ 5) :
    Calls Tryz.prog 21 #[.agg #[.int .u8 5, .int .i64 a, .int .i64 b, .int .i64 c, .int .i64 k]] w fun e w' => e = .returned (.string ⟨(numL 5 ++ numZ a ++ numZ (c + 1)).toArray⟩) ∧ Below w.heap.size w w' := by
  obtain ⟨wf, hwf⟩ : ∃ wf, wf = w.alloc (.cells #[.int .u8 5, .int .i64 a, .int .i64 b, .int .i64 c, .int .i64 k] 42) := ⟨_, rfl⟩
  have hX : Blk wf w.heap.size 42 #[.int .u8 5, .int .i64 a, .int .i64 b, .int .i64 c, .int .i64 k] := by rw [hwf]; exact blk_new w _ _
  have hB0 : Below w.heap.size w wf := by rw [hwf]; exact (Below.refl _ w).alloc (Nat.le_refl _) _
  have x0 := hX.cell (k := 0) (v := .int .u8 5) rfl
  have hof : ∀ W, Calls Tryz.prog 53 #[.int .u8 5] W fun e w' => e = .returned (.agg #[.bool true, .bool false, .bool true, .bool false]) ∧ Below W.heap.size W w' := fun W => (of_any 5 W).mono fun e w' ⟨h1, h2⟩ => ⟨h1, h2.below (Nat.le_refl _) (by simp)⟩
  have c0p : ∀ W, Calls Tryz.prog 19 #[.int .i64 5] W fun e w' => e = .returned (.string ⟨(numL 5).toArray⟩) ∧ Below W.heap.size W w' := fun W => rnum_any 5 W (by omega)
  have m0 : (numL 5).length ≤ 10 := num10 (by omega)
  have m1 := numZ10 a0 ab
  have m2 := numC10 c0 c5
  have s1 : ¬ 9223372036854775807 < (numL 5).length + (numZ a).length := by omega
  have s2 : ¬ 9223372036854775807 < (numL 5).length + (numZ a).length + (numZ (c + 1)).length := by omega
  clear m0 m1 m2
  have hwc : IntKind.i64.wrap (c + 1) = c + 1 := by rw [IntKind.wrap_i64]; omega
  have cb : I64b (c + 1) := ⟨by omega, by omega⟩
  rw [hwf] at x0
  go_enter Tryz.func21, Tryz.ntmps21
  go_wp2_with fail
  rw [← hwf]
  clear hwf x0
  refine (hof _).mono ?_
  rintro e w1 ⟨rfl, hb1⟩
  clear hof
  obtain ⟨wg, hwg⟩ : ∃ wg, wg = w1.alloc (.cells #[.bool true, .bool false, .bool true, .bool false] 104) := ⟨_, rfl⟩
  have hbg : Below w1.heap.size w1 wg := by rw [hwg]; exact (Below.refl _ w1).alloc (Nat.le_refl _) _
  have hP : QB w wg w1.heap.size 5 a b c k true false true false := ⟨below_next (below_next hB0 hb1 (Nat.le_refl _)) hbg (Nat.le_refl _), (hX.later hb1 hX.lt).later hbg (hX.later hb1 hX.lt).lt, by rw [hwg]; exact blk_new w1 _ _⟩
  clear hX hB0 hb1 hbg
  obtain ⟨q0, q1, q2, q3, q4, q5, q6, q7, q8⟩ := qcells hP
  rw [hwg] at q0 q1 q2 q3 q4 q5 q6 q7 q8
  go_wp2_with fail
  rw [← hwg]
  clear hwg
  refine (c0p _).mono ?_
  rintro e w2 ⟨rfl, hb⟩
  replace hP := hP.next hb
  clear hb q0 q1 q2 q3 q4 q5 q6 q7 q8
  obtain ⟨q0, q1, q2, q3, q4, q5, q6, q7, q8⟩ := qcells hP
  go_wp2_with fail
  refine (rnumZ_any _ _ a0 ab).mono ?_
  rintro e w3 ⟨rfl, hb⟩
  replace hP := hP.next hb
  clear hb q0 q1 q2 q3 q4 q5 q6 q7 q8
  obtain ⟨q0, q1, q2, q3, q4, q5, q6, q7, q8⟩ := qcells hP
  go_wp2_with fail
  refine (rnumZ_any (c + 1) _ (by omega) cb).mono ?_
  rintro e w4 ⟨rfl, hb⟩
  replace hP := hP.next hb
  clear hb q0 q1 q2 q3 q4 q5 q6 q7 q8
  obtain ⟨q0, q1, q2, q3, q4, q5, q6, q7, q8⟩ := qcells hP
  go_wp2_with fail
  go_ret
  exact ⟨ret_v (by simp only [str_app]; rfl), hP.b0⟩

set_option maxRecDepth 100000 in
set_option maxHeartbeats 800000 in
theorem one6 (a b c k : Int) (w : World) (a0 : 0 ≤ a) (ab : I64b a) (b0 : 0 ≤ b) (bb : I64b b) (c0 : -1 ≤ c) (c5 : c ≤ 5) :
    Calls Tryz.prog 21 #[.agg #[.int .u8 6, .int .i64 a, .int .i64 b, .int .i64 c, .int .i64 k]] w fun e w' => e = .returned (.string ⟨(numL 6 ++ numZ a ++ numZ b ++ numZ (c + 1)).toArray⟩) ∧ Below w.heap.size w w' := by
  obtain ⟨wf, hwf⟩ : ∃ wf, wf = w.alloc (.cells #[.int .u8 6, .int .i64 a, .int .i64 b, .int .i64 c, .int .i64 k] 42) := ⟨_, rfl⟩
  have hX : Blk wf w.heap.size 42 #[.int .u8 6, .int .i64 a, .int .i64 b, .int .i64 c, .int .i64 k] := by rw [hwf]; exact blk_new w _ _
  have hB0 : Below w.heap.size w wf := by rw [hwf]; exact (Below.refl _ w).alloc (Nat.le_refl _) _
  have x0 := hX.cell (k := 0) (v := .int .u8 6) rfl
  have hof : ∀ W, Calls Tryz.prog 53 #[.int .u8 6] W fun e w' => e = .returned (.agg #[.bool true, .bool true, .bool true, .bool false]) ∧ Below W.heap.size W w' := fun W => (of_any 6 W).mono fun e w' ⟨h1, h2⟩ => ⟨h1, h2.below (Nat.le_refl _) (by simp)⟩
  have c0p : ∀ W, Calls Tryz.prog 19 #[.int .i64 6] W fun e w' => e = .returned (.string ⟨(numL 6).toArray⟩) ∧ Below W.heap.size W w' := fun W => rnum_any 6 W (by omega)
  have m0 : (numL 6).length ≤ 10 := num10 (by omega)
  have m1 := numZ10 a0 ab
  have m2 := numZ10 b0 bb
  have m3 := numC10 c0 c5
  have s1 : ¬ 9223372036854775807 < (numL 6).length + (numZ a).length := by omega
  have s2 : ¬ 9223372036854775807 < (numL 6).length + (numZ a).length + (numZ b).length := by omega
  have s3 : ¬ 9223372036854775807 < (numL 6).length + (numZ a).length + (numZ b).length + (numZ (c + 1)).length := by omega
  clear m0 m1 m2 m3
  have hwc : IntKind.i64.wrap (c + 1) = c + 1 := by rw [IntKind.wrap_i64]; omega
  have cb : I64b (c + 1) := ⟨by omega, by omega⟩
  rw [hwf] at x0
  go_enter Tryz.func21, Tryz.ntmps21
  go_wp2_with fail
  rw [← hwf]
  clear hwf x0
  refine (hof _).mono ?_
  rintro e w1 ⟨rfl, hb1⟩
  clear hof
  obtain ⟨wg, hwg⟩ : ∃ wg, wg = w1.alloc (.cells #[.bool true, .bool true, .bool true, .bool false] 104) := ⟨_, rfl⟩
  have hbg : Below w1.heap.size w1 wg := by rw [hwg]; exact (Below.refl _ w1).alloc (Nat.le_refl _) _
  have hP : QB w wg w1.heap.size 6 a b c k true true true false := ⟨below_next (below_next hB0 hb1 (Nat.le_refl _)) hbg (Nat.le_refl _), (hX.later hb1 hX.lt).later hbg (hX.later hb1 hX.lt).lt, by rw [hwg]; exact blk_new w1 _ _⟩
  clear hX hB0 hb1 hbg
  obtain ⟨q0, q1, q2, q3, q4, q5, q6, q7, q8⟩ := qcells hP
  rw [hwg] at q0 q1 q2 q3 q4 q5 q6 q7 q8
  go_wp2_with fail
  rw [← hwg]
  clear hwg
  refine (c0p _).mono ?_
  rintro e w2 ⟨rfl, hb⟩
  replace hP := hP.next hb
  clear hb q0 q1 q2 q3 q4 q5 q6 q7 q8
  obtain ⟨q0, q1, q2, q3, q4, q5, q6, q7, q8⟩ := qcells hP
  go_wp2_with fail
  refine (rnumZ_any _ _ a0 ab).mono ?_
  rintro e w3 ⟨rfl, hb⟩
  replace hP := hP.next hb
  clear hb q0 q1 q2 q3 q4 q5 q6 q7 q8
  obtain ⟨q0, q1, q2, q3, q4, q5, q6, q7, q8⟩ := qcells hP
  go_wp2_with fail
  refine (rnumZ_any _ _ b0 bb).mono ?_
  rintro e w4 ⟨rfl, hb⟩
  replace hP := hP.next hb
  clear hb q0 q1 q2 q3 q4 q5 q6 q7 q8
  obtain ⟨q0, q1, q2, q3, q4, q5, q6, q7, q8⟩ := qcells hP
  go_wp2_with fail
  refine (rnumZ_any (c + 1) _ (by omega) cb).mono ?_
  rintro e w5 ⟨rfl, hb⟩
  replace hP := hP.next hb
  clear hb q0 q1 q2 q3 q4 q5 q6 q7 q8
  obtain ⟨q0, q1, q2, q3, q4, q5, q6, q7, q8⟩ := qcells hP
  go_wp2_with fail
  go_ret
  exact ⟨ret_v (by simp only [str_app]; rfl), hP.b0⟩

set_option maxRecDepth 100000 in
set_option maxHeartbeats 800000 in
theorem one7 (a b c k : Int) (w : World) (c0 : -1 ≤ c) (c5 : c ≤ 5) :
    Calls Tryz.prog 21 #[.agg #[.int .u8 7, .int .i64 a, .int .i64 b, .int .i64 c, .int .i64 k]] w fun e w' => e = .returned (.string ⟨(numL 7 ++ numZ (c + 1)).toArray⟩) ∧ Below w.heap.size w w' := by
  obtain ⟨wf, hwf⟩ : ∃ wf, wf = w.alloc (.cells #[.int .u8 7, .int .i64 a, .int .i64 b, .int .i64 c, .int .i64 k] 42) := ⟨_, rfl⟩
  have hX : Blk wf w.heap.size 42 #[.int .u8 7, .int .i64 a, .int .i64 b, .int .i64 c, .int .i64 k] := by rw [hwf]; exact blk_new w _ _
  have hB0 : Below w.heap.size w wf := by rw [hwf]; exact (Below.refl _ w).alloc (Nat.le_refl _) _
  have x0 := hX.cell (k := 0) (v := .int .u8 7) rfl
  have hof : ∀ W, Calls Tryz.prog 53 #[.int .u8 7] W fun e w' => e = .returned (.agg #[.bool false, .bool false, .bool true, .bool false]) ∧ Below W.heap.size W w' := fun W => (of_any 7 W).mono fun e w' ⟨h1, h2⟩ => ⟨h1, h2.below (Nat.le_refl _) (by simp)⟩
  have c0p : ∀ W, Calls Tryz.prog 19 #[.int .i64 7] W fun e w' => e = .returned (.string ⟨(numL 7).toArray⟩) ∧ Below W.heap.size W w' := fun W => rnum_any 7 W (by omega)
  have m0 : (numL 7).length ≤ 10 := num10 (by omega)
  have m1 := numC10 c0 c5
  have s1 : ¬ 9223372036854775807 < (numL 7).length + (numZ (c + 1)).length := by omega
  clear m0 m1
  have hwc : IntKind.i64.wrap (c + 1) = c + 1 := by rw [IntKind.wrap_i64]; omega
  have cb : I64b (c + 1) := ⟨by omega, by omega⟩
  rw [hwf] at x0
  go_enter Tryz.func21, Tryz.ntmps21
  go_wp2_with fail
  rw [← hwf]
  clear hwf x0
  refine (hof _).mono ?_
  rintro e w1 ⟨rfl, hb1⟩
  clear hof
  obtain ⟨wg, hwg⟩ : ∃ wg, wg = w1.alloc (.cells #[.bool false, .bool false, .bool true, .bool false] 104) := ⟨_, rfl⟩
  have hbg : Below w1.heap.size w1 wg := by rw [hwg]; exact (Below.refl _ w1).alloc (Nat.le_refl _) _
  have hP : QB w wg w1.heap.size 7 a b c k false false true false := ⟨below_next (below_next hB0 hb1 (Nat.le_refl _)) hbg (Nat.le_refl _), (hX.later hb1 hX.lt).later hbg (hX.later hb1 hX.lt).lt, by rw [hwg]; exact blk_new w1 _ _⟩
  clear hX hB0 hb1 hbg
  obtain ⟨q0, q1, q2, q3, q4, q5, q6, q7, q8⟩ := qcells hP
  rw [hwg] at q0 q1 q2 q3 q4 q5 q6 q7 q8
  go_wp2_with fail
  rw [← hwg]
  clear hwg
  refine (c0p _).mono ?_
  rintro e w2 ⟨rfl, hb⟩
  replace hP := hP.next hb
  clear hb q0 q1 q2 q3 q4 q5 q6 q7 q8
  obtain ⟨q0, q1, q2, q3, q4, q5, q6, q7, q8⟩ := qcells hP
  go_wp2_with fail
  refine (rnumZ_any (c + 1) _ (by omega) cb).mono ?_
  rintro e w3 ⟨rfl, hb⟩
  replace hP := hP.next hb
  clear hb q0 q1 q2 q3 q4 q5 q6 q7 q8
  obtain ⟨q0, q1, q2, q3, q4, q5, q6, q7, q8⟩ := qcells hP
  go_wp2_with fail
  go_ret
  exact ⟨ret_v (by simp only [str_app]; rfl), hP.b0⟩

set_option maxRecDepth 100000 in
set_option maxHeartbeats 800000 in
theorem one8 (a b c k : Int) (w : World) (b0 : 0 ≤ b) (bb : I64b b) (kb : I64b k) :
    Calls Tryz.prog 21 #[.agg #[.int .u8 8, .int .i64 a, .int .i64 b, .int .i64 c, .int .i64 k]] w fun e w' => e = .returned (.string ⟨(numL 8 ++ numZ b ++ numL (foldN k)).toArray⟩) ∧ Below w.heap.size w w' := by
  obtain ⟨wf, hwf⟩ : ∃ wf, wf = w.alloc (.cells #[.int .u8 8, .int .i64 a, .int .i64 b, .int .i64 c, .int .i64 k] 42) := ⟨_, rfl⟩
  have hX : Blk wf w.heap.size 42 #[.int .u8 8, .int .i64 a, .int .i64 b, .int .i64 c, .int .i64 k] := by rw [hwf]; exact blk_new w _ _
  have hB0 : Below w.heap.size w wf := by rw [hwf]; exact (Below.refl _ w).alloc (Nat.le_refl _) _
  have x0 := hX.cell (k := 0) (v := .int .u8 8) rfl
  have hof : ∀ W, Calls Tryz.prog 53 #[.int .u8 8] W fun e w' => e = .returned (.agg #[.bool false, .bool true, .bool false, .bool true]) ∧ Below W.heap.size W w' := fun W => (of_any 8 W).mono fun e w' ⟨h1, h2⟩ => ⟨h1, h2.below (Nat.le_refl _) (by simp)⟩
  have c0p : ∀ W, Calls Tryz.prog 19 #[.int .i64 8] W fun e w' => e = .returned (.string ⟨(numL 8).toArray⟩) ∧ Below W.heap.size W w' := fun W => rnum_any 8 W (by omega)
  have m0 : (numL 8).length ≤ 10 := num10 (by omega)
  have m1 := numZ10 b0 bb
  have m2 := fold10 kb
  have s1 : ¬ 9223372036854775807 < (numL 8).length + (numZ b).length := by omega
  have s2 : ¬ 9223372036854775807 < (numL 8).length + (numZ b).length + (numL (foldN k)).length := by omega
  clear m0 m1 m2
  rw [hwf] at x0
  go_enter Tryz.func21, Tryz.ntmps21
  go_wp2_with fail
  rw [← hwf]
  clear hwf x0
  refine (hof _).mono ?_
  rintro e w1 ⟨rfl, hb1⟩
  clear hof
  obtain ⟨wg, hwg⟩ : ∃ wg, wg = w1.alloc (.cells #[.bool false, .bool true, .bool false, .bool true] 104) := ⟨_, rfl⟩
  have hbg : Below w1.heap.size w1 wg := by rw [hwg]; exact (Below.refl _ w1).alloc (Nat.le_refl _) _
  have hP : QB w wg w1.heap.size 8 a b c k false true false true := ⟨below_next (below_next hB0 hb1 (Nat.le_refl _)) hbg (Nat.le_refl _), (hX.later hb1 hX.lt).later hbg (hX.later hb1 hX.lt).lt, by rw [hwg]; exact blk_new w1 _ _⟩
  clear hX hB0 hb1 hbg
  obtain ⟨q0, q1, q2, q3, q4, q5, q6, q7, q8⟩ := qcells hP
  rw [hwg] at q0 q1 q2 q3 q4 q5 q6 q7 q8
  go_wp2_with fail
  rw [← hwg]
  clear hwg
  refine (c0p _).mono ?_
  rintro e w2 ⟨rfl, hb⟩
  replace hP := hP.next hb
  clear hb q0 q1 q2 q3 q4 q5 q6 q7 q8
  obtain ⟨q0, q1, q2, q3, q4, q5, q6, q7, q8⟩ := qcells hP
  go_wp2_with fail
  refine (rnumZ_any _ _ b0 bb).mono ?_
  rintro e w3 ⟨rfl, hb⟩
  replace hP := hP.next hb
  clear hb q0 q1 q2 q3 q4 q5 q6 q7 q8
  obtain ⟨q0, q1, q2, q3, q4, q5, q6, q7, q8⟩ := qcells hP
  go_wp2_with fail
  refine (refInt_any _ _ kb.1 kb.2).mono ?_
  rintro e w4 ⟨rfl, hb⟩
  replace hP := hP.next hb
  clear hb q0 q1 q2 q3 q4 q5 q6 q7 q8
  obtain ⟨q0, q1, q2, q3, q4, q5, q6, q7, q8⟩ := qcells hP
  go_wp2_with fail
  go_ret
  exact ⟨ret_v (by simp only [str_app]; rfl), hP.b0⟩

set_option maxRecDepth 100000 in
set_option maxHeartbeats 800000 in
theorem one9 (a b c k : Int) (w : World) (kb : I64b k) :
    Calls Tryz.prog 21 #[.agg #[.int .u8 9, .int .i64 a, .int .i64 b, .int .i64 c, .int .i64 k]] w fun e w' => e = .returned (.string ⟨(numL 9 ++ numL (foldN k)).toArray⟩) ∧ Below w.heap.size w w' := by
  obtain ⟨wf, hwf⟩ : ∃ wf, wf = w.alloc (.cells #[.int .u8 9, .int .i64 a, .int .i64 b, .int .i64 c, .int .i64 k] 42) := ⟨_, rfl⟩
  have hX : Blk wf w.heap.size 42 #[.int .u8 9, .int .i64 a, .int .i64 b, .int .i64 c, .int .i64 k] := by rw [hwf]; exact blk_new w _ _
  have hB0 : Below w.heap.size w wf := by rw [hwf]; exact (Below.refl _ w).alloc (Nat.le_refl _) _
  have x0 := hX.cell (k := 0) (v := .int .u8 9) rfl
  have hof : ∀ W, Calls Tryz.prog 53 #[.int .u8 9] W fun e w' => e = .returned (.agg #[.bool false, .bool false, .bool false, .bool true]) ∧ Below W.heap.size W w' := fun W => (of_any 9 W).mono fun e w' ⟨h1, h2⟩ => ⟨h1, h2.below (Nat.le_refl _) (by simp)⟩
  have c0p : ∀ W, Calls Tryz.prog 19 #[.int .i64 9] W fun e w' => e = .returned (.string ⟨(numL 9).toArray⟩) ∧ Below W.heap.size W w' := fun W => rnum_any 9 W (by omega)
  have m0 : (numL 9).length ≤ 10 := num10 (by omega)
  have m1 := fold10 kb
  have s1 : ¬ 9223372036854775807 < (numL 9).length + (numL (foldN k)).length := by omega
  clear m0 m1
  rw [hwf] at x0
  go_enter Tryz.func21, Tryz.ntmps21
  go_wp2_with fail
  rw [← hwf]
  clear hwf x0
  refine (hof _).mono ?_
  rintro e w1 ⟨rfl, hb1⟩
  clear hof
  obtain ⟨wg, hwg⟩ : ∃ wg, wg = w1.alloc (.cells #[.bool false, .bool false, .bool false, .bool true] 104) := ⟨_, rfl⟩
  have hbg : Below w1.heap.size w1 wg := by rw [hwg]; exact (Below.refl _ w1).alloc (Nat.le_refl _) _
  have hP : QB w wg w1.heap.size 9 a b c k false false false true := ⟨below_next (below_next hB0 hb1 (Nat.le_refl _)) hbg (Nat.le_refl _), (hX.later hb1 hX.lt).later hbg (hX.later hb1 hX.lt).lt, by rw [hwg]; exact blk_new w1 _ _⟩
  clear hX hB0 hb1 hbg
  obtain ⟨q0, q1, q2, q3, q4, q5, q6, q7, q8⟩ := qcells hP
  rw [hwg] at q0 q1 q2 q3 q4 q5 q6 q7 q8
  go_wp2_with fail
  rw [← hwg]
  clear hwg
  refine (c0p _).mono ?_
  rintro e w2 ⟨rfl, hb⟩
  replace hP := hP.next hb
  clear hb q0 q1 q2 q3 q4 q5 q6 q7 q8
  obtain ⟨q0, q1, q2, q3, q4, q5, q6, q7, q8⟩ := qcells hP
  go_wp2_with fail
  refine (refInt_any _ _ kb.1 kb.2).mono ?_
  rintro e w3 ⟨rfl, hb⟩
  replace hP := hP.next hb
  clear hb q0 q1 q2 q3 q4 q5 q6 q7 q8
  obtain ⟨q0, q1, q2, q3, q4, q5, q6, q7, q8⟩ := qcells hP
  go_wp2_with fail
  go_ret
  exact ⟨ret_v (by simp only [str_app]; rfl), hP.b0⟩

set_option maxRecDepth 100000 in
set_option maxHeartbeats 800000 in
theorem one10 (a b c k : Int) (w : World)  :
    Calls Tryz.prog 21 #[.agg #[.int .u8 10, .int .i64 a, .int .i64 b, .int .i64 c, .int .i64 k]] w fun e w' => e = .returned (.string ⟨(numL 10).toArray⟩) ∧ Below w.heap.size w w' := by
  obtain ⟨wf, hwf⟩ : ∃ wf, wf = w.alloc (.cells #[.int .u8 10, .int .i64 a, .int .i64 b, .int .i64 c, .int .i64 k] 42) := ⟨_, rfl⟩
  have hX : Blk wf w.heap.size 42 #[.int .u8 10, .int .i64 a, .int .i64 b, .int .i64 c, .int .i64 k] := by rw [hwf]; exact blk_new w _ _
  have hB0 : Below w.heap.size w wf := by rw [hwf]; exact (Below.refl _ w).alloc (Nat.le_refl _) _
  have x0 := hX.cell (k := 0) (v := .int .u8 10) rfl
  have hof : ∀ W, Calls Tryz.prog 53 #[.int .u8 10] W fun e w' => e = .returned (.agg #[.bool false, .bool false, .bool false, .bool false]) ∧ Below W.heap.size W w' := fun W => (of_any 10 W).mono fun e w' ⟨h1, h2⟩ => ⟨h1, h2.below (Nat.le_refl _) (by simp)⟩
  have c0p : ∀ W, Calls Tryz.prog 19 #[.int .i64 10] W fun e w' => e = .returned (.string ⟨(numL 10).toArray⟩) ∧ Below W.heap.size W w' := fun W => rnum_any 10 W (by omega)
  rw [hwf] at x0
  go_enter Tryz.func21, Tryz.ntmps21
  go_wp2_with fail
  rw [← hwf]
  clear hwf x0
  refine (hof _).mono ?_
  rintro e w1 ⟨rfl, hb1⟩
  clear hof
  obtain ⟨wg, hwg⟩ : ∃ wg, wg = w1.alloc (.cells #[.bool false, .bool false, .bool false, .bool false] 104) := ⟨_, rfl⟩
  have hbg : Below w1.heap.size w1 wg := by rw [hwg]; exact (Below.refl _ w1).alloc (Nat.le_refl _) _
  have hP : QB w wg w1.heap.size 10 a b c k false false false false := ⟨below_next (below_next hB0 hb1 (Nat.le_refl _)) hbg (Nat.le_refl _), (hX.later hb1 hX.lt).later hbg (hX.later hb1 hX.lt).lt, by rw [hwg]; exact blk_new w1 _ _⟩
  clear hX hB0 hb1 hbg
  obtain ⟨q0, q1, q2, q3, q4, q5, q6, q7, q8⟩ := qcells hP
  rw [hwg] at q0 q1 q2 q3 q4 q5 q6 q7 q8
  go_wp2_with fail
  rw [← hwg]
  clear hwg
  refine (c0p _).mono ?_
  rintro e w2 ⟨rfl, hb⟩
  replace hP := hP.next hb
  clear hb q0 q1 q2 q3 q4 q5 q6 q7 q8
  obtain ⟨q0, q1, q2, q3, q4, q5, q6, q7, q8⟩ := qcells hP
  go_wp2_with fail
  go_ret
  exact ⟨rfl, hP.b0⟩

theorem one_any (x : In) (hx : x.ok) (h : InMay 7 x) (h1 : 1 ≤ x.o) (w : World) :
    Calls Tryz.prog 21 #[.agg #[.int .u8 (x.o : Int), .int .i64 x.a, .int .i64 x.b, .int .i64 x.c, .int .i64 x.k]] w fun e w' => e = .returned (.string ⟨(insL x).toArray⟩) ∧ Below w.heap.size w w' := by
  have h10 := h.o
  have hA := h.a
  have hB := h.b
  have hC := h.c
  obtain ⟨o, a, b, c, k⟩ := x
  simp only at h1 h10
  have : o = 1 ∨ o = 2 ∨ o = 3 ∨ o = 4 ∨ o = 5 ∨ o = 6 ∨ o = 7 ∨ o = 8 ∨ o = 9 ∨ o = 10 := by omega
  clear h
  rcases this with rfl | rfl | rfl | rfl | rfl | rfl | rfl | rfl | rfl | rfl <;> simp [fldA, fldB, fldC, namesOf] at hA hB hC
  · have e : insL ⟨1, a, b, c, k⟩ = numL 1 ++ numZ a ++ numL (foldN k) := by simp [insL, fldA, fldB, fldC, fldK, namesOf, optL]
    rw [e]
    exact one1 a b c k w hA.1 hx.a hx.k
  · have e : insL ⟨2, a, b, c, k⟩ = numL 2 ++ numZ a ++ numZ b := by simp [insL, fldA, fldB, fldC, fldK, namesOf, optL]
    rw [e]
    exact one2 a b c k w hA.1 hx.a hB.1 hx.b
  · have e : insL ⟨3, a, b, c, k⟩ = numL 3 ++ numL (foldN k) := by simp [insL, fldA, fldB, fldC, fldK, namesOf, optL]
    rw [e]
    exact one3 a b c k w hx.k
  · have e : insL ⟨4, a, b, c, k⟩ = numL 4 ++ numZ a ++ numL (foldN k) := by simp [insL, fldA, fldB, fldC, fldK, namesOf, optL]
    rw [e]
    exact one4 a b c k w hA.1 hx.a hx.k
  · have e : insL ⟨5, a, b, c, k⟩ = numL 5 ++ numZ a ++ numZ (c + 1) := by simp [insL, fldA, fldB, fldC, fldK, namesOf, optL]
    rw [e]
    exact one5 a b c k w hA.1 hx.a hC.1 hC.2
  · have e : insL ⟨6, a, b, c, k⟩ = numL 6 ++ numZ a ++ numZ b ++ numZ (c + 1) := by simp [insL, fldA, fldB, fldC, fldK, namesOf, optL]
    rw [e]
    exact one6 a b c k w hA.1 hx.a hB.1 hx.b hC.1 hC.2
  · have e : insL ⟨7, a, b, c, k⟩ = numL 7 ++ numZ (c + 1) := by simp [insL, fldA, fldB, fldC, fldK, namesOf, optL]
    rw [e]
    exact one7 a b c k w hC.1 hC.2
  · have e : insL ⟨8, a, b, c, k⟩ = numL 8 ++ numZ b ++ numL (foldN k) := by simp [insL, fldA, fldB, fldC, fldK, namesOf, optL]
    rw [e]
    exact one8 a b c k w hB.1 hx.b hx.k
  · have e : insL ⟨9, a, b, c, k⟩ = numL 9 ++ numL (foldN k) := by simp [insL, fldA, fldB, fldC, fldK, namesOf, optL]
    rw [e]
    exact one9 a b c k w hx.k
  · have e : insL ⟨10, a, b, c, k⟩ = numL 10 := by simp [insL, fldA, fldB, fldC, fldK, namesOf, optL]
    rw [e]
    exact one10 a b c k w 
end Go.Proofs.YtakgcienodigpaaGreat
