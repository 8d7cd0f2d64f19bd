/-
  The walks of readerOf, of what Get defers, and of Get.
-/
import Derived.Test.YtakgcienodigpaaGreatKGetS
import Derived.Test.YtakgcienodigpaaGreatKPutAll
import Derived.Test.YtakgcienodigpaaGreatGCheck
namespace Go.Proofs.YtakgcienodigpaaGreat
open Go.RowKit Oct

set_option maxRecDepth 100000 in
set_option maxHeartbeats 800000 in
theorem readerOf_any (Bs : Nat) (s : List UInt8) (w : World) (hS : StrB w Bs s) (hs : s.length ≤ maxLen) :
    Calls Tryz.prog 23 #[.pointer (some ⟨Bs, 0, none⟩)] w fun e w' => ∃ pb kb M, e = .returned (.agg #[F1 pb, F2 pb, F3 kb]) ∧ Rdr w' pb Bs kb M s ∧ w.heap.size ≤ M ∧ Below w.heap.size w w' := by
  obtain ⟨wf, hwf⟩ : ∃ wf, wf = (w.alloc (.cells #[.pointer (some ⟨Bs, 0, none⟩)] 63)).alloc (.cells #[.nilFunc, .nilFunc, .nilFunc] 61) := ⟨_, rfl⟩
  have hB0 : Below w.heap.size w wf := by rw [hwf]; exact below2 w _ _
  have hP : Blk wf w.heap.size 63 #[.pointer (some ⟨Bs, 0, none⟩)] := by rw [hwf]; exact (blk_new w _ _).alloc _
  have hC : Blk wf (w.heap.size + 1) 61 #[.nilFunc, .nilFunc, .nilFunc] := by rw [hwf]; exact blk_at (World.size_alloc _ _).symm
  have hS0 : StrB wf Bs s := (hB0.block _ (Blk.lt hS)).trans hS
  have hs0 := hB0.size
  have hn := namer_any wf
  have hmf : ∀ (fn : Fn) (first cap : Array Value) (w : World), (Instr.makeFunc fn first cap).run Tryz.prog w = .ok (.func fn first cap) w := fun _ _ _ _ => rfl
  go_enter Tryz.func23, Tryz.ntmps23
  go_wp2_with fail
  rw [← hwf]
  clear hwf
  refine hn.mono ?_
  rintro e w1 ⟨rfl, hN, hb1⟩
  have hP1 := hP.later hb1 hP.lt
  have hC1 := hC.later hb1 hC.lt
  have hS1 : StrB w1 Bs s := (hb1.block _ (Blk.lt hS0)).trans hS0
  have hR1 : Rdr w1 w.heap.size Bs (wf.heap.size + 1) wf.heap.size s := ⟨hP1, hS1, hN, hs⟩
  have hB1 := below_next hB0 hb1 (Nat.le_refl _)
  have t0 := hC1.cell (k := 0) (v := .nilFunc) rfl
  have t1 := hC1.cell (k := 1) (v := .nilFunc) rfl
  have t2 := hC1.cell (k := 2) (v := .nilFunc) rfl
  have g0 := hC1.frozen 0
  have g1 := hC1.frozen 1
  have g2 := hC1.frozen 2
  have hC2 := ((hC1.set 0 (F1 w.heap.size)).set 1 (F2 w.heap.size)).set 2 (F3 (wf.heap.size + 1))
  have hcs : But [w.heap.size + 1] w1 (((w1.setCell ⟨w.heap.size + 1, 0, none⟩ (F1 w.heap.size)).setCell ⟨w.heap.size + 1, 1, none⟩ (F2 w.heap.size)).setCell ⟨w.heap.size + 1, 2, none⟩ (F3 (wf.heap.size + 1))) := (((But.refl [w.heap.size + 1] w1).set (p := ⟨w.heap.size + 1, 0, none⟩) (.inl (by simp)) _).set (p := ⟨w.heap.size + 1, 1, none⟩) (.inl (by simp)) _).set (p := ⟨w.heap.size + 1, 2, none⟩) (.inl (by simp)) _
  have q0 := hC2.cell (k := 0) (v := F1 w.heap.size) rfl
  have q1 := hC2.cell (k := 1) (v := F2 w.heap.size) rfl
  have q2 := hC2.cell (k := 2) (v := F3 (wf.heap.size + 1)) rfl
  have hR2 := hR1.beside hC1 (by decide) hcs
  have hB2 := hB1.trans (hcs.below hB1.size (by simp))
  clear hn hP hC hS0 hP1 hC1 hS1 hR1 hC2 hcs hB1 hb1 hN
  go_wp2_with fail
  refine bodyPost_ret (v := .agg #[F1 w.heap.size, F2 w.heap.size, F3 (wf.heap.size + 1)]) (by simp [results, Tryz.f23, go_sem, q0, q1, q2]) rfl ?_
  exact ⟨_, _, _, rfl, hR2, hs0, hB2⟩

/-! ### What Get defers -/
/-- Get's three results, each in a block of its own. -/
structure Var3 (W : World) (B : Nat) (v1 v2 v3 : Value) (s : List UInt8) (z : Int) : Prop where
  a : Blk W B 26 #[v1, v2, v3]
  b : StrB W (B + 1) s
  c : Blk W (B + 1 + 1) 29 #[.int .i64 z]
theorem Var3.later {W W' : World} {B n : Nat} {v1 v2 v3 : Value} {s : List UInt8} {z : Int} (h : Var3 W B v1 v2 v3 s z) (hb : Below n W W') (hn : B + 1 + 1 < n) : Var3 W' B v1 v2 v3 s z := ⟨h.a.later hb (by omega), (hb.block _ (by omega)).trans h.b, h.c.later hb hn⟩
theorem assertNil2 (w : World) : (Instr.typeAssert Value.nilIface 20 55 true).run Tryz.prog w = .ok (.tuple #[.agg #[], .bool false]) w := by kernel_rfl
theorem assertWrong2 (w : World) : (Instr.typeAssert (.iface 55 (.agg #[])) 20 55 true).run Tryz.prog w = .ok (.tuple #[.agg #[], .bool true]) w := by kernel_rfl

set_option maxRecDepth 100000 in
set_option linter.unusedSimpArgs false in
set_option maxHeartbeats 800000 in
theorem gcatch_idle (B : Nat) (w : World) :
    CallsD Tryz.prog 22 #[.pointer (some ⟨B, 0, none⟩), .pointer (some ⟨B + 1, 0, none⟩), .pointer (some ⟨B + 1 + 1, 0, none⟩)] .returning w fun e u' w' => e = .returned (.tuple #[]) ∧ u' = .returning ∧ Below w.heap.size w w' := by
  refine callsD_of_wpS Tryz.func22 rfl fun c₀ cs hu => ?_
  have hrec : recoverD (c₀ :: cs) = none := by simp [recoverD, hu]
  apply wpS_seq
  simp only [Tryz.ntmps22, List.size_toArray, List.length_cons, List.length_nil, Nat.reduceAdd, Nat.reduceSub, Array.replicate_succ, Array.replicate_zero, List.push_toArray, List.append_toArray, List.nil_append, List.cons_append]
  refine wpS_region_steps ?_
  refine StepsS.none ?h1 (w' := w) ?h2 hrec ?_
  case h1 => kernel_rfl
  case h2 => rfl
  simp only [Act.put, List.setIfInBounds_toArray, List.set_cons_zero, List.set_cons_succ]
  refine StepsS.value ?h1 (w' := w) (v := .tuple #[.agg #[], .bool false]) ?h2 ?_
  case h1 => kernel_rfl
  case h2 => simp [execOp, go_sem, assertNil2]
  try simp only [Act.put, List.setIfInBounds_toArray, List.set_cons_zero, List.set_cons_succ]
  refine StepsS.value ?h1 (w' := w) (v := .tuple #[.agg #[], .bool false]) ?h2 ?_
  case h1 => kernel_rfl
  case h2 => simp [execOp, go_sem]
  try simp only [Act.put, List.setIfInBounds_toArray, List.set_cons_zero, List.set_cons_succ]
  refine StepsS.value ?h1 (w' := w) (v := .agg #[]) ?h2 ?_
  case h1 => kernel_rfl
  case h2 => simp [execOp, go_sem]
  try simp only [Act.put, List.setIfInBounds_toArray, List.set_cons_zero, List.set_cons_succ]
  refine StepsS.value ?h1 (w' := w) (v := .bool false) ?h2 ?_
  case h1 => kernel_rfl
  case h2 => simp [execOp, go_sem]
  try simp only [Act.put, List.setIfInBounds_toArray, List.set_cons_zero, List.set_cons_succ]
  refine StepsS.value ?h1 (w' := (w.alloc (.cells #[] 55))) (v := .pointer (some ⟨w.heap.size, 0, none⟩)) ?h2 ?_
  case h1 => kernel_rfl
  case h2 => simp [execOp, go_sem]
  try simp only [Act.put, List.setIfInBounds_toArray, List.set_cons_zero, List.set_cons_succ]
  refine StepsS.skip ?h1 (w' := (w.alloc (.cells #[] 55))) ?h2 ?_
  case h1 => kernel_rfl
  case h2 => simp [execOp, go_sem]
  try simp only [Act.put, List.setIfInBounds_toArray, List.set_cons_zero, List.set_cons_succ]
  refine StepsS.value ?h1 (w' := (w.alloc (.cells #[] 55))) (v := .bool false) ?h2 ?_
  case h1 => kernel_rfl
  case h2 => simp [execOp, go_sem]
  try simp only [Act.put, List.setIfInBounds_toArray, List.set_cons_zero, List.set_cons_succ]
  refine StepsS.done ?_
  refine wpS_of_wp ?_
  go_wp2_with fail
  have hb0 : Below w.heap.size w (w.alloc (.cells #[] 55)) := (Below.refl _ w).alloc (Nat.le_refl _) _
  cases c₀
  simp only at hu
  subst hu
  simp [bodyPostS, results, Tryz.results22, hb0]
theorem var_set {w : World} {B : Nat} {v1 v2 v3 : Value} {s : List UInt8} {z : Int} (h : Var3 w B v1 v2 v3 s z) (x1 x2 x3 : Value) (r : List UInt8) (y : Int) :
    Var3 (((((w.setCell ⟨B, 0, none⟩ x1).setCell ⟨B, 1, none⟩ x2).setCell ⟨B, 2, none⟩ x3).setCell ⟨B + 1, 0, none⟩ (.string ⟨r.toArray⟩)).setCell ⟨B + 1 + 1, 0, none⟩ (.int .i64 y)) B x1 x2 x3 r y ∧
    But [B, B + 1, B + 1 + 1] w (((((w.setCell ⟨B, 0, none⟩ x1).setCell ⟨B, 1, none⟩ x2).setCell ⟨B, 2, none⟩ x3).setCell ⟨B + 1, 0, none⟩ (.string ⟨r.toArray⟩)).setCell ⟨B + 1 + 1, 0, none⟩ (.int .i64 y)) := by
  refine ⟨⟨?_, ?_, ?_⟩, ?_⟩
  · exact ((((h.a.set 0 x1).set 1 x2).set 2 x3).beside (p := ⟨B + 1, 0, none⟩) (by simp) _).beside (p := ⟨B + 1 + 1, 0, none⟩) (by simp; try omega) _
  · exact (((((Blk.beside h.b (p := ⟨B, 0, none⟩) (by simp) x1).beside (p := ⟨B, 1, none⟩) (by simp) x2).beside (p := ⟨B, 2, none⟩) (by simp) x3).set 0 (.string ⟨r.toArray⟩)).beside (p := ⟨B + 1 + 1, 0, none⟩) (by simp) _)
  · exact (((((h.c.beside (p := ⟨B, 0, none⟩) (by simp; try omega) x1).beside (p := ⟨B, 1, none⟩) (by simp; try omega) x2).beside (p := ⟨B, 2, none⟩) (by simp; try omega) x3).beside (p := ⟨B + 1, 0, none⟩) (by simp) (.string ⟨r.toArray⟩)).set 0 (.int .i64 y))
  · exact (((((But.refl [B, B + 1, B + 1 + 1] w).set (p := ⟨B, 0, none⟩) (.inl (by simp)) _).set (p := ⟨B, 1, none⟩) (.inl (by simp)) _).set (p := ⟨B, 2, none⟩) (.inl (by simp)) _).set (p := ⟨B + 1, 0, none⟩) (.inl (by simp)) _).set (p := ⟨B + 1 + 1, 0, none⟩) (.inl (by simp)) _

set_option maxRecDepth 100000 in
set_option linter.unusedSimpArgs false in
set_option maxHeartbeats 1600000 in
theorem gcatch_wrong (B : Nat) (older : List PanicEntry) (w : World) {v1 v2 v3 : Value} {s : List UInt8} {z : Int} (h : Var3 w B v1 v2 v3 s z) :
    CallsD Tryz.prog 22 #[.pointer (some ⟨B, 0, none⟩), .pointer (some ⟨B + 1, 0, none⟩), .pointer (some ⟨B + 1 + 1, 0, none⟩)] (.panicking ({ v := .iface 55 (.agg #[]), recovered := false } :: older)) w fun e u' w' =>
      e = .returned (.tuple #[]) ∧ u' = .panicking ({ v := .iface 55 (.agg #[]), recovered := true } :: older) ∧ Var3 w' B (.slice none 0 0) (.slice none 0 0) (.slice none 0 0) [] 7 ∧ But [B, B + 1, B + 1 + 1] w w' := by
  obtain ⟨w0, hw0⟩ : ∃ w0, w0 = w.alloc (.cells #[] 55) := ⟨_, rfl⟩
  have hB0 : Below w.heap.size w w0 := by rw [hw0]; exact (Below.refl _ w).alloc (Nat.le_refl _) _
  have h0 := h.later hB0 h.c.lt
  have c0 := h0.a.cell (k := 0) (v := v1) rfl
  have c1 := h0.a.cell (k := 1) (v := v2) rfl
  have c2 := h0.a.cell (k := 2) (v := v3) rfl
  have c3 := Blk.cell h0.b (k := 0) (v := .string ⟨s.toArray⟩) rfl
  have c4 := h0.c.cell (k := 0) (v := .int .i64 z) rfl
  have g0 := h0.a.frozen 0
  have g1 := h0.a.frozen 1
  have g2 := h0.a.frozen 2
  have g3 := Blk.frozen h0.b 0
  have g4 := h0.c.frozen 0
  obtain ⟨r1, r2⟩ := var_set h0 (.slice none 0 0) (.slice none 0 0) (.slice none 0 0) [] 7
  have r3 : But [B, B + 1, B + 1 + 1] w _ := (But.of_below hB0 [B, B + 1, B + 1 + 1]).next r2
  clear r2 h0
  refine callsD_of_wpS Tryz.func22 rfl fun c₀ cs hu => ?_
  have hrec : recoverD (c₀ :: cs) = some (.iface 55 (.agg #[]), { c₀ with mode := .panicking ({ v := .iface 55 (.agg #[]), recovered := true } :: older) } :: cs) := by simp [recoverD, hu]
  apply wpS_seq
  simp only [Tryz.ntmps22, List.size_toArray, List.length_cons, List.length_nil, Nat.reduceAdd, Nat.reduceSub, Array.replicate_succ, Array.replicate_zero, List.push_toArray, List.append_toArray, List.nil_append, List.cons_append]
  refine wpS_region_steps ?_
  refine StepsS.recover ?h1 (w' := w) ?h2 hrec ?_
  case h1 => kernel_rfl
  case h2 => rfl
  simp only [Act.put, List.setIfInBounds_toArray, List.set_cons_zero, List.set_cons_succ]
  refine StepsS.value ?h1 (w' := w) (v := .tuple #[.agg #[], .bool true]) ?h2 ?_
  case h1 => kernel_rfl
  case h2 => simp [execOp, go_sem, assertWrong2]
  try simp only [Act.put, List.setIfInBounds_toArray, List.set_cons_zero, List.set_cons_succ]
  refine StepsS.value ?h1 (w' := w) (v := .tuple #[.agg #[], .bool true]) ?h2 ?_
  case h1 => kernel_rfl
  case h2 => simp [execOp, go_sem]
  try simp only [Act.put, List.setIfInBounds_toArray, List.set_cons_zero, List.set_cons_succ]
  refine StepsS.value ?h1 (w' := w) (v := .agg #[]) ?h2 ?_
  case h1 => kernel_rfl
  case h2 => simp [execOp, go_sem]
  try simp only [Act.put, List.setIfInBounds_toArray, List.set_cons_zero, List.set_cons_succ]
  refine StepsS.value ?h1 (w' := w) (v := .bool true) ?h2 ?_
  case h1 => kernel_rfl
  case h2 => simp [execOp, go_sem]
  try simp only [Act.put, List.setIfInBounds_toArray, List.set_cons_zero, List.set_cons_succ]
  refine StepsS.value ?h1 (w' := w.alloc (.cells #[] 55)) (v := .pointer (some ⟨w.heap.size, 0, none⟩)) ?h2 ?_
  case h1 => kernel_rfl
  case h2 => simp [execOp, go_sem]
  try simp only [Act.put, List.setIfInBounds_toArray, List.set_cons_zero, List.set_cons_succ]
  refine StepsS.skip ?h1 (w' := w.alloc (.cells #[] 55)) ?h2 ?_
  case h1 => kernel_rfl
  case h2 => simp [execOp, go_sem]
  try simp only [Act.put, List.setIfInBounds_toArray, List.set_cons_zero, List.set_cons_succ]
  refine StepsS.value ?h1 (w' := w.alloc (.cells #[] 55)) (v := .bool true) ?h2 ?_
  case h1 => kernel_rfl
  case h2 => simp [execOp, go_sem]
  try simp only [Act.put, List.setIfInBounds_toArray, List.set_cons_zero, List.set_cons_succ]
  rw [← hw0]
  clear hw0
  refine StepsS.done ?_
  refine wpS_of_wp ?_
  go_wp2_with fail
  cases c₀
  simp only at hu
  subst hu
  simp [bodyPostS, results, Tryz.results22, r1, r3]
end Go.Proofs.YtakgcienodigpaaGreat
