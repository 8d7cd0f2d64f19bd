/-
  The walk of putIns, kind by kind.
-/
import Derived.Test.YtakgcienodigpaaGreatKPut
namespace Go.Proofs.YtakgcienodigpaaGreat
open Go.RowKit Oct

theorem ins_len {x : In} (hx : x.ok) (h : InMay 7 x) : (insL x).length ≤ 50 := by
  have h0 : (numL x.o).length ≤ 10 := num10 (by have := h.o; omega)
  have h1 : (optL (fldA x.o) (numZ x.a)).length ≤ 10 := opt10 fun e => numZ10 (by have := h.a; rw [if_pos e] at this; exact this.1) hx.a
  have h2 : (optL (fldB x.o) (numZ x.b)).length ≤ 10 := opt10 fun e => numZ10 (by have := h.b; rw [if_pos e] at this; exact this.1) hx.b
  have h3 : (optL (fldC x.o) (numZ (x.c + 1))).length ≤ 10 := opt10 fun e => by have := h.c; rw [if_pos e] at this; exact numC10 this.1 this.2
  have h4 : (optL (fldK x.o) (numL (foldN x.k))).length ≤ 10 := opt10 fun _ => fold10 hx.k
  simp only [insL, List.length_append]
  omega
/-- The two boxes of putIns: the instruction, and which of its fields have bytes. -/
structure PB (w wf : World) (o : Nat) (a b c k : Int) (p q r s : Bool) : Prop where
  b0 : Below w.heap.size w wf
  x : Blk wf w.heap.size 42 #[.int .u8 (o : Int), .int .i64 a, .int .i64 b, .int .i64 c, .int .i64 k]
  y : Blk wf (w.heap.size + 1) 99 #[.bool p, .bool q, .bool r, .bool s]
theorem pB_new (w : World) (o : Nat) (a b c k : Int) (p q r s : Bool) : PB w ((w.alloc (.cells #[.int .u8 (o : Int), .int .i64 a, .int .i64 b, .int .i64 c, .int .i64 k] 42)).alloc (.cells #[.bool p, .bool q, .bool r, .bool s] 99)) o a b c k p q r s :=
  ⟨below2 w _ _, (blk_new w _ _).alloc _, blk_at (World.size_alloc _ _).symm⟩
theorem cells5 {w W : World} {o : Nat} {a b c k : Int} {p q r s : Bool} (h : PB w W o a b c k p q r s) : W.cell? ⟨w.heap.size, 0, none⟩ = some (.int .u8 (o : Int)) ∧ W.cell? ⟨w.heap.size, 1, none⟩ = some (.int .i64 a) ∧ W.cell? ⟨w.heap.size, 2, none⟩ = some (.int .i64 b) ∧ W.cell? ⟨w.heap.size, 3, none⟩ = some (.int .i64 c) ∧ W.cell? ⟨w.heap.size, 4, none⟩ = some (.int .i64 k) ∧
    W.cell? ⟨w.heap.size + 1, 0, none⟩ = some (.bool p) ∧ W.cell? ⟨w.heap.size + 1, 1, none⟩ = some (.bool q) ∧ W.cell? ⟨w.heap.size + 1, 2, none⟩ = some (.bool r) ∧ W.cell? ⟨w.heap.size + 1, 3, none⟩ = some (.bool s) :=
  ⟨h.x.cell rfl, h.x.cell rfl, h.x.cell rfl, h.x.cell rfl, h.x.cell rfl, h.y.cell rfl, h.y.cell rfl, h.y.cell rfl, h.y.cell rfl⟩
theorem PB.next {w W W' : World} {o : Nat} {a b c k : Int} {p q r s : Bool} (h : PB w W o a b c k p q r s) (hb : Below W.heap.size W W') : PB w W' o a b c k p q r s :=
  ⟨below_next h.b0 hb (Nat.le_refl _), h.x.later hb h.x.lt, h.y.later hb h.y.lt⟩

set_option maxRecDepth 100000 in
set_option maxHeartbeats 800000 in
theorem putIns1 (a b c k : Int) (w : World) (a0 : 0 ≤ a) (ab : I64b a) (kb : I64b k) :
    Calls Tryz.prog 47 #[.agg #[.int .u8 1, .int .i64 a, .int .i64 b, .int .i64 c, .int .i64 k], .agg #[.bool true, .bool false, .bool false, .bool true]] w fun e w' => e = .returned (.string ⟨(numL 1 ++ numZ a ++ numL (foldN k)).toArray⟩) ∧ Below w.heap.size w w' := by
  obtain ⟨wf, hwf⟩ : ∃ wf, wf = (w.alloc (.cells #[.int .u8 1, .int .i64 a, .int .i64 b, .int .i64 c, .int .i64 k] 42)).alloc (.cells #[.bool true, .bool false, .bool false, .bool true] 99) := ⟨_, rfl⟩
  have hP : PB w wf 1 a b c k true false false true := by rw [hwf]; exact pB_new w 1 a b c k true false false true
  have c0p : ∀ W, Calls Tryz.prog 14 #[.int .i64 1] W fun e w' => e = .returned (.string ⟨(numL 1).toArray⟩) ∧ Below W.heap.size W w' := fun W => putInt_any 1 W (by omega)
  have m0 : (numL 1).length ≤ 10 := num10 (by omega)
  have m1 := numZ10 a0 ab
  have m2 := fold10 kb
  have s1 : ¬ 9223372036854775807 < (numL 1).length + (numZ a).length := by omega
  have s2 : ¬ 9223372036854775807 < (numL 1).length + (numZ a).length + (numL (foldN k)).length := by omega
  clear m0 m1 m2
  obtain ⟨q0, q1, q2, q3, q4, q5, q6, q7, q8⟩ := cells5 hP
  go_enter Tryz.func47, Tryz.ntmps47
  go_wp2_with fail
  rw [← hwf]
  clear hwf
  refine (c0p _).mono ?_
  rintro e w1 ⟨rfl, hb⟩
  replace hP := hP.next hb
  clear hb q0 q1 q2 q3 q4 q5 q6 q7 q8
  obtain ⟨q0, q1, q2, q3, q4, q5, q6, q7, q8⟩ := cells5 hP
  go_wp2_with fail
  refine (putZ_any _ _ a0 ab).mono ?_
  rintro e w2 ⟨rfl, hb⟩
  replace hP := hP.next hb
  clear hb q0 q1 q2 q3 q4 q5 q6 q7 q8
  obtain ⟨q0, q1, q2, q3, q4, q5, q6, q7, q8⟩ := cells5 hP
  go_wp2_with fail
  refine (int_any _ _ kb.1 kb.2).mono ?_
  rintro e w3 ⟨rfl, hb⟩
  replace hP := hP.next hb
  clear hb q0 q1 q2 q3 q4 q5 q6 q7 q8
  obtain ⟨q0, q1, q2, q3, q4, q5, q6, q7, q8⟩ := cells5 hP
  go_wp2_with fail
  go_ret
  exact ⟨ret_v (by simp only [str_app]; rfl), hP.b0⟩

set_option maxRecDepth 100000 in
set_option maxHeartbeats 800000 in
theorem putIns2 (a b c k : Int) (w : World) (a0 : 0 ≤ a) (ab : I64b a) (b0 : 0 ≤ b) (bb : I64b b) :
    Calls Tryz.prog 47 #[.agg #[.int .u8 2, .int .i64 a, .int .i64 b, .int .i64 c, .int .i64 k], .agg #[.bool true, .bool true, .bool false, .bool false]] w fun e w' => e = .returned (.string ⟨(numL 2 ++ numZ a ++ numZ b).toArray⟩) ∧ Below w.heap.size w w' := by
  obtain ⟨wf, hwf⟩ : ∃ wf, wf = (w.alloc (.cells #[.int .u8 2, .int .i64 a, .int .i64 b, .int .i64 c, .int .i64 k] 42)).alloc (.cells #[.bool true, .bool true, .bool false, .bool false] 99) := ⟨_, rfl⟩
  have hP : PB w wf 2 a b c k true true false false := by rw [hwf]; exact pB_new w 2 a b c k true true false false
  have c0p : ∀ W, Calls Tryz.prog 14 #[.int .i64 2] W fun e w' => e = .returned (.string ⟨(numL 2).toArray⟩) ∧ Below W.heap.size W w' := fun W => putInt_any 2 W (by omega)
  have m0 : (numL 2).length ≤ 10 := num10 (by omega)
  have m1 := numZ10 a0 ab
  have m2 := numZ10 b0 bb
  have s1 : ¬ 9223372036854775807 < (numL 2).length + (numZ a).length := by omega
  have s2 : ¬ 9223372036854775807 < (numL 2).length + (numZ a).length + (numZ b).length := by omega
  clear m0 m1 m2
  obtain ⟨q0, q1, q2, q3, q4, q5, q6, q7, q8⟩ := cells5 hP
  go_enter Tryz.func47, Tryz.ntmps47
  go_wp2_with fail
  rw [← hwf]
  clear hwf
  refine (c0p _).mono ?_
  rintro e w1 ⟨rfl, hb⟩
  replace hP := hP.next hb
  clear hb q0 q1 q2 q3 q4 q5 q6 q7 q8
  obtain ⟨q0, q1, q2, q3, q4, q5, q6, q7, q8⟩ := cells5 hP
  go_wp2_with fail
  refine (putZ_any _ _ a0 ab).mono ?_
  rintro e w2 ⟨rfl, hb⟩
  replace hP := hP.next hb
  clear hb q0 q1 q2 q3 q4 q5 q6 q7 q8
  obtain ⟨q0, q1, q2, q3, q4, q5, q6, q7, q8⟩ := cells5 hP
  go_wp2_with fail
  refine (putZ_any _ _ b0 bb).mono ?_
  rintro e w3 ⟨rfl, hb⟩
  replace hP := hP.next hb
  clear hb q0 q1 q2 q3 q4 q5 q6 q7 q8
  obtain ⟨q0, q1, q2, q3, q4, q5, q6, q7, q8⟩ := cells5 hP
  go_wp2_with fail
  go_ret
  exact ⟨ret_v (by simp only [str_app]; rfl), hP.b0⟩

set_option maxRecDepth 100000 in
set_option maxHeartbeats 800000 in
theorem putIns3 (a b c k : Int) (w : World) (kb : I64b k) :
    Calls Tryz.prog 47 #[.agg #[.int .u8 3, .int .i64 a, .int .i64 b, .int .i64 c, .int .i64 k], .agg #[.bool false, .bool false, .bool false, .bool true]] w fun e w' => e = .returned (.string ⟨(numL 3 ++ numL (foldN k)).toArray⟩) ∧ Below w.heap.size w w' := by
  obtain ⟨wf, hwf⟩ : ∃ wf, wf = (w.alloc (.cells #[.int .u8 3, .int .i64 a, .int .i64 b, .int .i64 c, .int .i64 k] 42)).alloc (.cells #[.bool false, .bool false, .bool false, .bool true] 99) := ⟨_, rfl⟩
  have hP : PB w wf 3 a b c k false false false true := by rw [hwf]; exact pB_new w 3 a b c k false false false true
  have c0p : ∀ W, Calls Tryz.prog 14 #[.int .i64 3] W fun e w' => e = .returned (.string ⟨(numL 3).toArray⟩) ∧ Below W.heap.size W w' := fun W => putInt_any 3 W (by omega)
  have m0 : (numL 3).length ≤ 10 := num10 (by omega)
  have m1 := fold10 kb
  have s1 : ¬ 9223372036854775807 < (numL 3).length + (numL (foldN k)).length := by omega
  clear m0 m1
  obtain ⟨q0, q1, q2, q3, q4, q5, q6, q7, q8⟩ := cells5 hP
  go_enter Tryz.func47, Tryz.ntmps47
  go_wp2_with fail
  rw [← hwf]
  clear hwf
  refine (c0p _).mono ?_
  rintro e w1 ⟨rfl, hb⟩
  replace hP := hP.next hb
  clear hb q0 q1 q2 q3 q4 q5 q6 q7 q8
  obtain ⟨q0, q1, q2, q3, q4, q5, q6, q7, q8⟩ := cells5 hP
  go_wp2_with fail
  refine (int_any _ _ kb.1 kb.2).mono ?_
  rintro e w2 ⟨rfl, hb⟩
  replace hP := hP.next hb
  clear hb q0 q1 q2 q3 q4 q5 q6 q7 q8
  obtain ⟨q0, q1, q2, q3, q4, q5, q6, q7, q8⟩ := cells5 hP
  go_wp2_with fail
  go_ret
  exact ⟨ret_v (by simp only [str_app]; rfl), hP.b0⟩

set_option maxRecDepth 100000 in
set_option maxHeartbeats 800000 in
theorem putIns4 (a b c k : Int) (w : World) (a0 : 0 ≤ a) (ab : I64b a) (kb : I64b k) :
    Calls Tryz.prog 47 #[.agg #[.int .u8 4, .int .i64 a, .int .i64 b, .int .i64 c, .int .i64 k], .agg #[.bool true, .bool false, .bool false, .bool true]] w fun e w' => e = .returned (.string ⟨(numL 4 ++ numZ a ++ numL (foldN k)).toArray⟩) ∧ Below w.heap.size w w' := by
  obtain ⟨wf, hwf⟩ : ∃ wf, wf = (w.alloc (.cells #[.int .u8 4, .int .i64 a, .int .i64 b, .int .i64 c, .int .i64 k] 42)).alloc (.cells #[.bool true, .bool false, .bool false, .bool true] 99) := ⟨_, rfl⟩
  have hP : PB w wf 4 a b c k true false false true := by rw [hwf]; exact pB_new w 4 a b c k true false false true
  have c0p : ∀ W, Calls Tryz.prog 14 #[.int .i64 4] W fun e w' => e = .returned (.string ⟨(numL 4).toArray⟩) ∧ Below W.heap.size W w' := fun W => putInt_any 4 W (by omega)
  have m0 : (numL 4).length ≤ 10 := num10 (by omega)
  have m1 := numZ10 a0 ab
  have m2 := fold10 kb
  have s1 : ¬ 9223372036854775807 < (numL 4).length + (numZ a).length := by omega
  have s2 : ¬ 9223372036854775807 < (numL 4).length + (numZ a).length + (numL (foldN k)).length := by omega
  clear m0 m1 m2
  obtain ⟨q0, q1, q2, q3, q4, q5, q6, q7, q8⟩ := cells5 hP
  go_enter Tryz.func47, Tryz.ntmps47
  go_wp2_with fail
  rw [← hwf]
  clear hwf
  refine (c0p _).mono ?_
  rintro e w1 ⟨rfl, hb⟩
  replace hP := hP.next hb
  clear hb q0 q1 q2 q3 q4 q5 q6 q7 q8
  obtain ⟨q0, q1, q2, q3, q4, q5, q6, q7, q8⟩ := cells5 hP
  go_wp2_with fail
  refine (putZ_any _ _ a0 ab).mono ?_
  rintro e w2 ⟨rfl, hb⟩
  replace hP := hP.next hb
  clear hb q0 q1 q2 q3 q4 q5 q6 q7 q8
  obtain ⟨q0, q1, q2, q3, q4, q5, q6, q7, q8⟩ := cells5 hP
  go_wp2_with fail
  refine (int_any _ _ kb.1 kb.2).mono ?_
  rintro e w3 ⟨rfl, hb⟩
  replace hP := hP.next hb
  clear hb q0 q1 q2 q3 q4 q5 q6 q7 q8
  obtain ⟨q0, q1, q2, q3, q4, q5, q6, q7, q8⟩ := cells5 hP
  go_wp2_with fail
  go_ret
  exact ⟨ret_v (by simp only [str_app]; rfl), hP.b0⟩

set_option maxRecDepth 100000 in
set_option maxHeartbeats 800000 in
theorem putIns5 (a b c k : Int) (w : World) (a0 : 0 ≤ a) (ab : I64b a) (c0 : -1 ≤ c) (c5 : c ≤ 5) :
    Calls Tryz.prog 47 #[.agg #[.int .u8 5, .int .i64 a, .int .i64 b, .int .i64 c, .int .i64 k], .agg #[.bool true, .bool false, .bool true, .bool false]] w fun e w' => e = .returned (.string ⟨(numL 5 ++ numZ a ++ numZ (c + 1)).toArray⟩) ∧ Below w.heap.size w w' := by
  obtain ⟨wf, hwf⟩ : ∃ wf, wf = (w.alloc (.cells #[.int .u8 5, .int .i64 a, .int .i64 b, .int .i64 c, .int .i64 k] 42)).alloc (.cells #[.bool true, .bool false, .bool true, .bool false] 99) := ⟨_, rfl⟩
  have hP : PB w wf 5 a b c k true false true false := by rw [hwf]; exact pB_new w 5 a b c k true false true false
  have c0p : ∀ W, Calls Tryz.prog 14 #[.int .i64 5] W fun e w' => e = .returned (.string ⟨(numL 5).toArray⟩) ∧ Below W.heap.size W w' := fun W => putInt_any 5 W (by omega)
  have m0 : (numL 5).length ≤ 10 := num10 (by omega)
  have m1 := numZ10 a0 ab
  have m2 := numC10 c0 c5
  have s1 : ¬ 9223372036854775807 < (numL 5).length + (numZ a).length := by omega
  have s2 : ¬ 9223372036854775807 < (numL 5).length + (numZ a).length + (numZ (c + 1)).length := by omega
  clear m0 m1 m2
  obtain ⟨q0, q1, q2, q3, q4, q5, q6, q7, q8⟩ := cells5 hP
  go_enter Tryz.func47, Tryz.ntmps47
  go_wp2_with fail
  rw [← hwf]
  clear hwf
  refine (c0p _).mono ?_
  rintro e w1 ⟨rfl, hb⟩
  replace hP := hP.next hb
  clear hb q0 q1 q2 q3 q4 q5 q6 q7 q8
  obtain ⟨q0, q1, q2, q3, q4, q5, q6, q7, q8⟩ := cells5 hP
  go_wp2_with fail
  refine (putZ_any _ _ a0 ab).mono ?_
  rintro e w2 ⟨rfl, hb⟩
  replace hP := hP.next hb
  clear hb q0 q1 q2 q3 q4 q5 q6 q7 q8
  obtain ⟨q0, q1, q2, q3, q4, q5, q6, q7, q8⟩ := cells5 hP
  go_wp2_with fail
  refine (putChannel_any _ _ c0 c5).mono ?_
  rintro e w3 ⟨rfl, hb⟩
  replace hP := hP.next hb
  clear hb q0 q1 q2 q3 q4 q5 q6 q7 q8
  obtain ⟨q0, q1, q2, q3, q4, q5, q6, q7, q8⟩ := cells5 hP
  go_wp2_with fail
  go_ret
  exact ⟨ret_v (by simp only [str_app]; rfl), hP.b0⟩

set_option maxRecDepth 100000 in
set_option maxHeartbeats 800000 in
theorem putIns6 (a b c k : Int) (w : World) (a0 : 0 ≤ a) (ab : I64b a) (b0 : 0 ≤ b) (bb : I64b b) (c0 : -1 ≤ c) (c5 : c ≤ 5) :
    Calls Tryz.prog 47 #[.agg #[.int .u8 6, .int .i64 a, .int .i64 b, .int .i64 c, .int .i64 k], .agg #[.bool true, .bool true, .bool true, .bool false]] w fun e w' => e = .returned (.string ⟨(numL 6 ++ numZ a ++ numZ b ++ numZ (c + 1)).toArray⟩) ∧ Below w.heap.size w w' := by
  obtain ⟨wf, hwf⟩ : ∃ wf, wf = (w.alloc (.cells #[.int .u8 6, .int .i64 a, .int .i64 b, .int .i64 c, .int .i64 k] 42)).alloc (.cells #[.bool true, .bool true, .bool true, .bool false] 99) := ⟨_, rfl⟩
  have hP : PB w wf 6 a b c k true true true false := by rw [hwf]; exact pB_new w 6 a b c k true true true false
  have c0p : ∀ W, Calls Tryz.prog 14 #[.int .i64 6] W fun e w' => e = .returned (.string ⟨(numL 6).toArray⟩) ∧ Below W.heap.size W w' := fun W => putInt_any 6 W (by omega)
  have m0 : (numL 6).length ≤ 10 := num10 (by omega)
  have m1 := numZ10 a0 ab
  have m2 := numZ10 b0 bb
  have m3 := numC10 c0 c5
  have s1 : ¬ 9223372036854775807 < (numL 6).length + (numZ a).length := by omega
  have s2 : ¬ 9223372036854775807 < (numL 6).length + (numZ a).length + (numZ b).length := by omega
  have s3 : ¬ 9223372036854775807 < (numL 6).length + (numZ a).length + (numZ b).length + (numZ (c + 1)).length := by omega
  clear m0 m1 m2 m3
  obtain ⟨q0, q1, q2, q3, q4, q5, q6, q7, q8⟩ := cells5 hP
  go_enter Tryz.func47, Tryz.ntmps47
  go_wp2_with fail
  rw [← hwf]
  clear hwf
  refine (c0p _).mono ?_
  rintro e w1 ⟨rfl, hb⟩
  replace hP := hP.next hb
  clear hb q0 q1 q2 q3 q4 q5 q6 q7 q8
  obtain ⟨q0, q1, q2, q3, q4, q5, q6, q7, q8⟩ := cells5 hP
  go_wp2_with fail
  refine (putZ_any _ _ a0 ab).mono ?_
  rintro e w2 ⟨rfl, hb⟩
  replace hP := hP.next hb
  clear hb q0 q1 q2 q3 q4 q5 q6 q7 q8
  obtain ⟨q0, q1, q2, q3, q4, q5, q6, q7, q8⟩ := cells5 hP
  go_wp2_with fail
  refine (putZ_any _ _ b0 bb).mono ?_
  rintro e w3 ⟨rfl, hb⟩
  replace hP := hP.next hb
  clear hb q0 q1 q2 q3 q4 q5 q6 q7 q8
  obtain ⟨q0, q1, q2, q3, q4, q5, q6, q7, q8⟩ := cells5 hP
  go_wp2_with fail
  refine (putChannel_any _ _ c0 c5).mono ?_
  rintro e w4 ⟨rfl, hb⟩
  replace hP := hP.next hb
  clear hb q0 q1 q2 q3 q4 q5 q6 q7 q8
  obtain ⟨q0, q1, q2, q3, q4, q5, q6, q7, q8⟩ := cells5 hP
  go_wp2_with fail
  go_ret
  exact ⟨ret_v (by simp only [str_app]; rfl), hP.b0⟩

set_option maxRecDepth 100000 in
set_option maxHeartbeats 800000 in
theorem putIns7 (a b c k : Int) (w : World) (c0 : -1 ≤ c) (c5 : c ≤ 5) :
    Calls Tryz.prog 47 #[.agg #[.int .u8 7, .int .i64 a, .int .i64 b, .int .i64 c, .int .i64 k], .agg #[.bool false, .bool false, .bool true, .bool false]] w fun e w' => e = .returned (.string ⟨(numL 7 ++ numZ (c + 1)).toArray⟩) ∧ Below w.heap.size w w' := by
  obtain ⟨wf, hwf⟩ : ∃ wf, wf = (w.alloc (.cells #[.int .u8 7, .int .i64 a, .int .i64 b, .int .i64 c, .int .i64 k] 42)).alloc (.cells #[.bool false, .bool false, .bool true, .bool false] 99) := ⟨_, rfl⟩
  have hP : PB w wf 7 a b c k false false true false := by rw [hwf]; exact pB_new w 7 a b c k false false true false
  have c0p : ∀ W, Calls Tryz.prog 14 #[.int .i64 7] W fun e w' => e = .returned (.string ⟨(numL 7).toArray⟩) ∧ Below W.heap.size W w' := fun W => putInt_any 7 W (by omega)
  have m0 : (numL 7).length ≤ 10 := num10 (by omega)
  have m1 := numC10 c0 c5
  have s1 : ¬ 9223372036854775807 < (numL 7).length + (numZ (c + 1)).length := by omega
  clear m0 m1
  obtain ⟨q0, q1, q2, q3, q4, q5, q6, q7, q8⟩ := cells5 hP
  go_enter Tryz.func47, Tryz.ntmps47
  go_wp2_with fail
  rw [← hwf]
  clear hwf
  refine (c0p _).mono ?_
  rintro e w1 ⟨rfl, hb⟩
  replace hP := hP.next hb
  clear hb q0 q1 q2 q3 q4 q5 q6 q7 q8
  obtain ⟨q0, q1, q2, q3, q4, q5, q6, q7, q8⟩ := cells5 hP
  go_wp2_with fail
  refine (putChannel_any _ _ c0 c5).mono ?_
  rintro e w2 ⟨rfl, hb⟩
  replace hP := hP.next hb
  clear hb q0 q1 q2 q3 q4 q5 q6 q7 q8
  obtain ⟨q0, q1, q2, q3, q4, q5, q6, q7, q8⟩ := cells5 hP
  go_wp2_with fail
  go_ret
  exact ⟨ret_v (by simp only [str_app]; rfl), hP.b0⟩

set_option maxRecDepth 100000 in
set_option maxHeartbeats 800000 in
theorem putIns8 (a b c k : Int) (w : World) (b0 : 0 ≤ b) (bb : I64b b) (kb : I64b k) :
    Calls Tryz.prog 47 #[.agg #[.int .u8 8, .int .i64 a, .int .i64 b, .int .i64 c, .int .i64 k], .agg #[.bool false, .bool true, .bool false, .bool true]] w fun e w' => e = .returned (.string ⟨(numL 8 ++ numZ b ++ numL (foldN k)).toArray⟩) ∧ Below w.heap.size w w' := by
  obtain ⟨wf, hwf⟩ : ∃ wf, wf = (w.alloc (.cells #[.int .u8 8, .int .i64 a, .int .i64 b, .int .i64 c, .int .i64 k] 42)).alloc (.cells #[.bool false, .bool true, .bool false, .bool true] 99) := ⟨_, rfl⟩
  have hP : PB w wf 8 a b c k false true false true := by rw [hwf]; exact pB_new w 8 a b c k false true false true
  have c0p : ∀ W, Calls Tryz.prog 14 #[.int .i64 8] W fun e w' => e = .returned (.string ⟨(numL 8).toArray⟩) ∧ Below W.heap.size W w' := fun W => putInt_any 8 W (by omega)
  have m0 : (numL 8).length ≤ 10 := num10 (by omega)
  have m1 := numZ10 b0 bb
  have m2 := fold10 kb
  have s1 : ¬ 9223372036854775807 < (numL 8).length + (numZ b).length := by omega
  have s2 : ¬ 9223372036854775807 < (numL 8).length + (numZ b).length + (numL (foldN k)).length := by omega
  clear m0 m1 m2
  obtain ⟨q0, q1, q2, q3, q4, q5, q6, q7, q8⟩ := cells5 hP
  go_enter Tryz.func47, Tryz.ntmps47
  go_wp2_with fail
  rw [← hwf]
  clear hwf
  refine (c0p _).mono ?_
  rintro e w1 ⟨rfl, hb⟩
  replace hP := hP.next hb
  clear hb q0 q1 q2 q3 q4 q5 q6 q7 q8
  obtain ⟨q0, q1, q2, q3, q4, q5, q6, q7, q8⟩ := cells5 hP
  go_wp2_with fail
  refine (putZ_any _ _ b0 bb).mono ?_
  rintro e w2 ⟨rfl, hb⟩
  replace hP := hP.next hb
  clear hb q0 q1 q2 q3 q4 q5 q6 q7 q8
  obtain ⟨q0, q1, q2, q3, q4, q5, q6, q7, q8⟩ := cells5 hP
  go_wp2_with fail
  refine (int_any _ _ kb.1 kb.2).mono ?_
  rintro e w3 ⟨rfl, hb⟩
  replace hP := hP.next hb
  clear hb q0 q1 q2 q3 q4 q5 q6 q7 q8
  obtain ⟨q0, q1, q2, q3, q4, q5, q6, q7, q8⟩ := cells5 hP
  go_wp2_with fail
  go_ret
  exact ⟨ret_v (by simp only [str_app]; rfl), hP.b0⟩

set_option maxRecDepth 100000 in
set_option maxHeartbeats 800000 in
theorem putIns9 (a b c k : Int) (w : World) (kb : I64b k) :
    Calls Tryz.prog 47 #[.agg #[.int .u8 9, .int .i64 a, .int .i64 b, .int .i64 c, .int .i64 k], .agg #[.bool false, .bool false, .bool false, .bool true]] w fun e w' => e = .returned (.string ⟨(numL 9 ++ numL (foldN k)).toArray⟩) ∧ Below w.heap.size w w' := by
  obtain ⟨wf, hwf⟩ : ∃ wf, wf = (w.alloc (.cells #[.int .u8 9, .int .i64 a, .int .i64 b, .int .i64 c, .int .i64 k] 42)).alloc (.cells #[.bool false, .bool false, .bool false, .bool true] 99) := ⟨_, rfl⟩
  have hP : PB w wf 9 a b c k false false false true := by rw [hwf]; exact pB_new w 9 a b c k false false false true
  have c0p : ∀ W, Calls Tryz.prog 14 #[.int .i64 9] W fun e w' => e = .returned (.string ⟨(numL 9).toArray⟩) ∧ Below W.heap.size W w' := fun W => putInt_any 9 W (by omega)
  have m0 : (numL 9).length ≤ 10 := num10 (by omega)
  have m1 := fold10 kb
  have s1 : ¬ 9223372036854775807 < (numL 9).length + (numL (foldN k)).length := by omega
  clear m0 m1
  obtain ⟨q0, q1, q2, q3, q4, q5, q6, q7, q8⟩ := cells5 hP
  go_enter Tryz.func47, Tryz.ntmps47
  go_wp2_with fail
  rw [← hwf]
  clear hwf
  refine (c0p _).mono ?_
  rintro e w1 ⟨rfl, hb⟩
  replace hP := hP.next hb
  clear hb q0 q1 q2 q3 q4 q5 q6 q7 q8
  obtain ⟨q0, q1, q2, q3, q4, q5, q6, q7, q8⟩ := cells5 hP
  go_wp2_with fail
  refine (int_any _ _ kb.1 kb.2).mono ?_
  rintro e w2 ⟨rfl, hb⟩
  replace hP := hP.next hb
  clear hb q0 q1 q2 q3 q4 q5 q6 q7 q8
  obtain ⟨q0, q1, q2, q3, q4, q5, q6, q7, q8⟩ := cells5 hP
  go_wp2_with fail
  go_ret
  exact ⟨ret_v (by simp only [str_app]; rfl), hP.b0⟩

set_option maxRecDepth 100000 in
set_option maxHeartbeats 800000 in
theorem putIns10 (a b c k : Int) (w : World)  :
    Calls Tryz.prog 47 #[.agg #[.int .u8 10, .int .i64 a, .int .i64 b, .int .i64 c, .int .i64 k], .agg #[.bool false, .bool false, .bool false, .bool false]] w fun e w' => e = .returned (.string ⟨(numL 10).toArray⟩) ∧ Below w.heap.size w w' := by
  obtain ⟨wf, hwf⟩ : ∃ wf, wf = (w.alloc (.cells #[.int .u8 10, .int .i64 a, .int .i64 b, .int .i64 c, .int .i64 k] 42)).alloc (.cells #[.bool false, .bool false, .bool false, .bool false] 99) := ⟨_, rfl⟩
  have hP : PB w wf 10 a b c k false false false false := by rw [hwf]; exact pB_new w 10 a b c k false false false false
  have c0p : ∀ W, Calls Tryz.prog 14 #[.int .i64 10] W fun e w' => e = .returned (.string ⟨(numL 10).toArray⟩) ∧ Below W.heap.size W w' := fun W => putInt_any 10 W (by omega)
  obtain ⟨q0, q1, q2, q3, q4, q5, q6, q7, q8⟩ := cells5 hP
  go_enter Tryz.func47, Tryz.ntmps47
  go_wp2_with fail
  rw [← hwf]
  clear hwf
  refine (c0p _).mono ?_
  rintro e w1 ⟨rfl, hb⟩
  replace hP := hP.next hb
  clear hb q0 q1 q2 q3 q4 q5 q6 q7 q8
  obtain ⟨q0, q1, q2, q3, q4, q5, q6, q7, q8⟩ := cells5 hP
  go_wp2_with fail
  go_ret
  exact ⟨rfl, hP.b0⟩

theorem putIns_any (x : In) (hx : x.ok) (h : InMay 7 x) (h1 : 1 ≤ x.o) (w : World) :
    Calls Tryz.prog 47 #[.agg #[.int .u8 (x.o : Int), .int .i64 x.a, .int .i64 x.b, .int .i64 x.c, .int .i64 x.k], fldV x.o] w fun e w' => e = .returned (.string ⟨(insL x).toArray⟩) ∧ Below w.heap.size w w' := by
  have h10 := h.o
  have hA := h.a
  have hB := h.b
  have hC := h.c
  obtain ⟨o, a, b, c, k⟩ := x
  simp only at h1 h10
  have : o = 1 ∨ o = 2 ∨ o = 3 ∨ o = 4 ∨ o = 5 ∨ o = 6 ∨ o = 7 ∨ o = 8 ∨ o = 9 ∨ o = 10 := by omega
  clear h
  rcases this with rfl | rfl | rfl | rfl | rfl | rfl | rfl | rfl | rfl | rfl <;> simp [fldA, fldB, fldC, namesOf] at hA hB hC
  · have e : insL ⟨1, a, b, c, k⟩ = numL 1 ++ numZ a ++ numL (foldN k) := by simp [insL, fldA, fldB, fldC, fldK, namesOf, optL]
    rw [e]
    exact putIns1 a b c k w hA.1 hx.a hx.k
  · have e : insL ⟨2, a, b, c, k⟩ = numL 2 ++ numZ a ++ numZ b := by simp [insL, fldA, fldB, fldC, fldK, namesOf, optL]
    rw [e]
    exact putIns2 a b c k w hA.1 hx.a hB.1 hx.b
  · have e : insL ⟨3, a, b, c, k⟩ = numL 3 ++ numL (foldN k) := by simp [insL, fldA, fldB, fldC, fldK, namesOf, optL]
    rw [e]
    exact putIns3 a b c k w hx.k
  · have e : insL ⟨4, a, b, c, k⟩ = numL 4 ++ numZ a ++ numL (foldN k) := by simp [insL, fldA, fldB, fldC, fldK, namesOf, optL]
    rw [e]
    exact putIns4 a b c k w hA.1 hx.a hx.k
  · have e : insL ⟨5, a, b, c, k⟩ = numL 5 ++ numZ a ++ numZ (c + 1) := by simp [insL, fldA, fldB, fldC, fldK, namesOf, optL]
    rw [e]
    exact putIns5 a b c k w hA.1 hx.a hC.1 hC.2
  · have e : insL ⟨6, a, b, c, k⟩ = numL 6 ++ numZ a ++ numZ b ++ numZ (c + 1) := by simp [insL, fldA, fldB, fldC, fldK, namesOf, optL]
    rw [e]
    exact putIns6 a b c k w hA.1 hx.a hB.1 hx.b hC.1 hC.2
  · have e : insL ⟨7, a, b, c, k⟩ = numL 7 ++ numZ (c + 1) := by simp [insL, fldA, fldB, fldC, fldK, namesOf, optL]
    rw [e]
    exact putIns7 a b c k w hC.1 hC.2
  · have e : insL ⟨8, a, b, c, k⟩ = numL 8 ++ numZ b ++ numL (foldN k) := by simp [insL, fldA, fldB, fldC, fldK, namesOf, optL]
    rw [e]
    exact putIns8 a b c k w hB.1 hx.b hx.k
  · have e : insL ⟨9, a, b, c, k⟩ = numL 9 ++ numL (foldN k) := by simp [insL, fldA, fldB, fldC, fldK, namesOf, optL]
    rw [e]
    exact putIns9 a b c k w hx.k
  · have e : insL ⟨10, a, b, c, k⟩ = numL 10 := by simp [insL, fldA, fldB, fldC, fldK, namesOf, optL]
    rw [e]
    exact putIns10 a b c k w 
end Go.Proofs.YtakgcienodigpaaGreat
