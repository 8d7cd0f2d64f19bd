/-
  The walk of what Check defers: what is wrong is told by the named results.
-/
import Derived.Test.YtamkmmpockmpfaaGSites
namespace Go.Proofs.Ytamkmmpockmpfaa
open Go.RowKit

/-- Three variables, each in a block of its own. -/
structure Res (W : World) (B : Nat) (x y z : Int) : Prop where
  a : Blk W B 3 #[.int .i64 x]
  b : Blk W (B + 1) 3 #[.int .i64 y]
  c : Blk W (B + 1 + 1) 31 #[.int .i64 z]
theorem Blk.frozen {W : World} {B : Nat} {t : TypeId} {cs : Array Value} (h : Blk W B t cs) (k : Nat) : W.frozen? ⟨B, k, none⟩ = false := by simp [World.frozen?, show W.heap[B]? = _ from h]

/-- The operations of a region, one behind the other, in a function that may recover. -/
inductive StepsS (P : Program) (ops : Array Oper) (Q : Exit → Act → List Frame → World → Prop) : List Oper → Act → List Frame → World → Prop
  | done {a : Act} {cs : List Frame} {w : World} (h : Q .normal a cs w) : StepsS P ops Q [] a cs w
  | recover {o : Oper} {rest : List Oper} {a : Act} {cs cs' : List Frame} {w w' : World} {v : Value} (hw : Region.wanted o (yielded ops a.tmps) = true) (hr : (execOp a.eval o).run P w = .ok .recover w') (hc : recoverD cs = some (v, cs')) (h : StepsS P ops Q rest (a.put o.dst v) cs' w') : StepsS P ops Q (o :: rest) a cs w
  | none {o : Oper} {rest : List Oper} {a : Act} {cs : List Frame} {w w' : World} (hw : Region.wanted o (yielded ops a.tmps) = true) (hr : (execOp a.eval o).run P w = .ok .recover w') (hc : recoverD cs = Option.none) (h : StepsS P ops Q rest (a.put o.dst .nilIface) cs w') : StepsS P ops Q (o :: rest) a cs w
  | value {o : Oper} {rest : List Oper} {a : Act} {cs : List Frame} {w w' : World} {v : Value} (hw : Region.wanted o (yielded ops a.tmps) = true) (hr : (execOp a.eval o).run P w = .ok (.value v) w') (h : StepsS P ops Q rest (a.put o.dst v) cs w') : StepsS P ops Q (o :: rest) a cs w
  | skip {o : Oper} {rest : List Oper} {a : Act} {cs : List Frame} {w w' : World} (hw : Region.wanted o (yielded ops a.tmps) = true) (hr : (execOp a.eval o).run P w = .ok .skip w') (h : StepsS P ops Q rest (a.put o.dst undef) cs w') : StepsS P ops Q (o :: rest) a cs w
theorem range'_cons' (k n : Nat) : List.range' k (n + 1) = k :: List.range' (k + 1) n := rfl
theorem StepsS.sound {P : Program} {ops : Array Oper} {Q : Exit → Act → List Frame → World → Prop} {l : List Oper} {a : Act} {cs : List Frame} {w : World} (h : StepsS P ops Q l a cs w) :
    ∀ k, (∀ j, l[j]? = ops[k + j]?) → wpOpsS P ops Q (List.range' k l.length) a cs w := by
  have key : ∀ {o : Oper} {t : List Oper} {k : Nat}, (∀ j, (o :: t)[j]? = ops[k + j]?) → ops[k]? = some o ∧ ∀ j, t[j]? = ops[k + 1 + j]? := fun hj =>
    ⟨by have := hj 0; simpa using this.symm, fun j => by have := hj (j + 1); rw [List.getElem?_cons_succ] at this; rw [this]; congr 1; omega⟩
  induction h with
  | done h => intro k _; exact h
  | recover hw hr hc _ ih => intro k hj; obtain ⟨ho, ht⟩ := key hj; simp only [List.length_cons, range'_cons', wpOpsS, ho, hw, hr, hc, if_true]; exact ih _ ht
  | none hw hr hc _ ih => intro k hj; obtain ⟨ho, ht⟩ := key hj; simp only [List.length_cons, range'_cons', wpOpsS, ho, hw, hr, hc, if_true]; exact ih _ ht
  | value hw hr _ ih => intro k hj; obtain ⟨ho, ht⟩ := key hj; simp only [List.length_cons, range'_cons', wpOpsS, ho, hw, hr, if_true]; exact ih _ ht
  | skip hw hr _ ih => intro k hj; obtain ⟨ho, ht⟩ := key hj; simp only [List.length_cons, range'_cons', wpOpsS, ho, hw, hr, if_true]; exact ih _ ht
theorem wpS_region_steps {P : Program} {Q : Exit → Act → List Frame → World → Prop} {l : List Oper} {a : Act} {cs : List Frame} {w : World} {id : Nat} (h : StepsS P l.toArray Q l a cs w) : (Code.region id l.toArray false).wpS P Q a cs w := by
  refine wpS_region ?_
  rw [List.range_eq_range']
  exact h.sound 0 (fun j => by simp)
theorem assertNil (w : World) : (Instr.typeAssert Value.nilIface 20 82 true).run Try.prog w = .ok (.tuple #[.agg #[.int .i64 0, .int .i64 0, .int .i64 0], .bool false]) w := by kernel_rfl
theorem assertWrong (x y z : Int) (w : World) : (Instr.typeAssert (.iface 82 (.agg #[.int .i64 x, .int .i64 y, .int .i64 z])) 20 82 true).run Try.prog w = .ok (.tuple #[.agg #[.int .i64 x, .int .i64 y, .int .i64 z], .bool true]) w := by kernel_rfl

theorem Blk.set {W : World} {B : Nat} {t : TypeId} {cs : Array Value} (h : Blk W B t cs) (k : Nat) (v : Value) : Blk (W.setCell ⟨B, k, none⟩ v) B t (cs.setIfInBounds k v) := heap_set_same v h
theorem Blk.beside {W : World} {B : Nat} {t : TypeId} {cs : Array Value} (h : Blk W B t cs) {p : Addr} (hp : B ≠ p.block) (v : Value) : Blk (W.setCell p v) B t cs := (Below.heap_setCell W p v B hp).trans h
theorem Blk.alloc {W : World} {B : Nat} {t : TypeId} {cs : Array Value} (h : Blk W B t cs) (o : Obj) : Blk (W.alloc o) B t cs := (Below.heap_alloc W o B h.lt).trans h
theorem res_set {w : World} {B : Nat} {x0 y0 z0 : Int} (h : Res w B x0 y0 z0) (x y z : Int) (o : Obj) :
    Res (((((w.setCell ⟨B, 0, none⟩ (.int .i64 x)).setCell ⟨B + 1, 0, none⟩ (.int .i64 y)).setCell ⟨B + 1 + 1, 0, none⟩ (.int .i64 z)).alloc o).drew) B x y z ∧
    But [B, B + 1, B + 1 + 1] w (((((w.setCell ⟨B, 0, none⟩ (.int .i64 x)).setCell ⟨B + 1, 0, none⟩ (.int .i64 y)).setCell ⟨B + 1 + 1, 0, none⟩ (.int .i64 z)).alloc o).drew) := by
  refine ⟨⟨?_, ?_, ?_⟩, ?_⟩
  · exact ((((h.a.set 0 (.int .i64 x)).beside (p := ⟨B + 1, 0, none⟩) (by simp) _).beside (p := ⟨B + 1 + 1, 0, none⟩) (by simp; try omega) _).alloc o).drew
  · exact ((((h.b.beside (p := ⟨B, 0, none⟩) (by simp) (.int .i64 x)).set 0 (.int .i64 y)).beside (p := ⟨B + 1 + 1, 0, none⟩) (by simp; try omega) _).alloc o).drew
  · exact ((((h.c.beside (p := ⟨B, 0, none⟩) (by simp; try omega) (.int .i64 x)).beside (p := ⟨B + 1, 0, none⟩) (by simp) (.int .i64 y)).set 0 (.int .i64 z)).alloc o).drew
  · exact ((((((But.refl [B, B + 1, B + 1 + 1] w).set (p := ⟨B, 0, none⟩) (.inl (by simp)) _).set (p := ⟨B + 1, 0, none⟩) (.inl (by simp)) _).set (p := ⟨B + 1 + 1, 0, none⟩) (.inl (by simp)) _).alloc o).drew)

set_option maxRecDepth 100000 in
set_option linter.unusedSimpArgs false in
set_option maxHeartbeats 800000 in
theorem catch_idle (B : Nat) (w : World) :
    CallsD Try.prog 29 #[.pointer (some ⟨B, 0, none⟩), .pointer (some ⟨B + 1, 0, none⟩), .pointer (some ⟨B + 1 + 1, 0, none⟩)] .returning w fun e u' w' => e = .returned (.tuple #[]) ∧ u' = .returning ∧ Below w.heap.size w w' := by
  refine callsD_of_wpS Try.func29 rfl fun c₀ cs hu => ?_
  have hrec : recoverD (c₀ :: cs) = none := by simp [recoverD, hu]
  apply wpS_seq
  simp only [Try.ntmps29, List.size_toArray, List.length_cons, List.length_nil, Nat.reduceAdd, Nat.reduceSub, Array.replicate_succ, Array.replicate_zero, List.push_toArray, List.append_toArray, List.nil_append, List.cons_append]
  refine wpS_region_steps ?_
  refine StepsS.none ?h1 (w' := w) ?h2 hrec ?_
  case h1 => kernel_rfl
  case h2 => rfl
  simp only [Act.put, List.setIfInBounds_toArray, List.set_cons_zero, List.set_cons_succ]
  refine StepsS.value ?h1 (w' := w) (v := .tuple #[.agg #[.int .i64 0, .int .i64 0, .int .i64 0], .bool false]) ?h2 ?_
  case h1 => kernel_rfl
  case h2 => simp [execOp, go_sem, assertNil]
  try simp only [Act.put, List.setIfInBounds_toArray, List.set_cons_zero, List.set_cons_succ]
  refine StepsS.value ?h1 (w' := w) (v := .tuple #[.agg #[.int .i64 0, .int .i64 0, .int .i64 0], .bool false]) ?h2 ?_
  case h1 => kernel_rfl
  case h2 => simp [execOp, go_sem]
  try simp only [Act.put, List.setIfInBounds_toArray, List.set_cons_zero, List.set_cons_succ]
  refine StepsS.value ?h1 (w' := w) (v := .agg #[.int .i64 0, .int .i64 0, .int .i64 0]) ?h2 ?_
  case h1 => kernel_rfl
  case h2 => simp [execOp, go_sem]
  try simp only [Act.put, List.setIfInBounds_toArray, List.set_cons_zero, List.set_cons_succ]
  refine StepsS.value ?h1 (w' := w) (v := .bool false) ?h2 ?_
  case h1 => kernel_rfl
  case h2 => simp [execOp, go_sem]
  try simp only [Act.put, List.setIfInBounds_toArray, List.set_cons_zero, List.set_cons_succ]
  refine StepsS.value ?h1 (w' := (w.alloc (.cells #[.int .i64 0, .int .i64 0, .int .i64 0] 82))) (v := .pointer (some ⟨w.heap.size, 0, none⟩)) ?h2 ?_
  case h1 => kernel_rfl
  case h2 => simp [execOp, go_sem]
  try simp only [Act.put, List.setIfInBounds_toArray, List.set_cons_zero, List.set_cons_succ]
  refine StepsS.skip ?h1 (w' := (w.alloc (.cells #[.int .i64 0, .int .i64 0, .int .i64 0] 82))) ?h2 ?_
  case h1 => kernel_rfl
  case h2 => simp [execOp, go_sem]
  try simp only [Act.put, List.setIfInBounds_toArray, List.set_cons_zero, List.set_cons_succ]
  refine StepsS.value ?h1 (w' := (w.alloc (.cells #[.int .i64 0, .int .i64 0, .int .i64 0] 82))) (v := .bool false) ?h2 ?_
  case h1 => kernel_rfl
  case h2 => simp [execOp, go_sem]
  try simp only [Act.put, List.setIfInBounds_toArray, List.set_cons_zero, List.set_cons_succ]
  refine StepsS.done ?_
  refine wpS_of_wp ?_
  go_wp2_with fail
  have hb0 : Below w.heap.size w (w.alloc (.cells #[.int .i64 0, .int .i64 0, .int .i64 0] 82)) := (Below.refl _ w).alloc (Nat.le_refl _) _
  cases c₀
  simp only at hu
  subst hu
  simp [bodyPostS, results, Try.results29, hb0]

set_option maxRecDepth 100000 in
set_option linter.unusedSimpArgs false in
set_option maxHeartbeats 800000 in
theorem catch_wrong (B : Nat) (x y z : Int) (older : List PanicEntry) (w : World) (x0 y0 z0 : Int) (h : Res w B x0 y0 z0) :
    CallsD Try.prog 29 #[.pointer (some ⟨B, 0, none⟩), .pointer (some ⟨B + 1, 0, none⟩), .pointer (some ⟨B + 1 + 1, 0, none⟩)] (.panicking ({ v := .iface 82 (.agg #[.int .i64 x, .int .i64 y, .int .i64 z]), recovered := false } :: older)) w fun e u' w' =>
      e = .returned (.tuple #[]) ∧ u' = .panicking ({ v := .iface 82 (.agg #[.int .i64 x, .int .i64 y, .int .i64 z]), recovered := true } :: older) ∧ Res w' B x y z ∧ But [B, B + 1, B + 1 + 1] w w' := by
  have ha := h.a.frozen 0
  have hb := h.b.frozen 0
  have hc := h.c.frozen 0
  have l0 := h.a.lt
  have l1 := h.b.lt
  have l2 := h.c.lt
  refine callsD_of_wpS Try.func29 rfl fun c₀ cs hu => ?_
  have hrec : recoverD (c₀ :: cs) = some (.iface 82 (.agg #[.int .i64 x, .int .i64 y, .int .i64 z]), { c₀ with mode := .panicking ({ v := .iface 82 (.agg #[.int .i64 x, .int .i64 y, .int .i64 z]), recovered := true } :: older) } :: cs) := by simp [recoverD, hu]
  apply wpS_seq
  simp only [Try.ntmps29, List.size_toArray, List.length_cons, List.length_nil, Nat.reduceAdd, Nat.reduceSub, Array.replicate_succ, Array.replicate_zero, List.push_toArray, List.append_toArray, List.nil_append, List.cons_append]
  refine wpS_region_steps ?_
  refine StepsS.recover ?h1 (w' := w) ?h2 hrec ?_
  case h1 => kernel_rfl
  case h2 => rfl
  simp only [Act.put, List.setIfInBounds_toArray, List.set_cons_zero, List.set_cons_succ]
  refine StepsS.value ?h1 (w' := w) (v := .tuple #[.agg #[.int .i64 x, .int .i64 y, .int .i64 z], .bool true]) ?h2 ?_
  case h1 => kernel_rfl
  case h2 => simp [execOp, go_sem, assertWrong]
  try simp only [Act.put, List.setIfInBounds_toArray, List.set_cons_zero, List.set_cons_succ]
  refine StepsS.value ?h1 (w' := w) (v := .tuple #[.agg #[.int .i64 x, .int .i64 y, .int .i64 z], .bool true]) ?h2 ?_
  case h1 => kernel_rfl
  case h2 => simp [execOp, go_sem]
  try simp only [Act.put, List.setIfInBounds_toArray, List.set_cons_zero, List.set_cons_succ]
  refine StepsS.value ?h1 (w' := w) (v := .agg #[.int .i64 x, .int .i64 y, .int .i64 z]) ?h2 ?_
  case h1 => kernel_rfl
  case h2 => simp [execOp, go_sem]
  try simp only [Act.put, List.setIfInBounds_toArray, List.set_cons_zero, List.set_cons_succ]
  refine StepsS.value ?h1 (w' := w) (v := .bool true) ?h2 ?_
  case h1 => kernel_rfl
  case h2 => simp [execOp, go_sem]
  try simp only [Act.put, List.setIfInBounds_toArray, List.set_cons_zero, List.set_cons_succ]
  refine StepsS.value ?h1 (w' := (w.alloc (.cells #[.int .i64 0, .int .i64 0, .int .i64 0] 82))) (v := .pointer (some ⟨w.heap.size, 0, none⟩)) ?h2 ?_
  case h1 => kernel_rfl
  case h2 => simp [execOp, go_sem]
  try simp only [Act.put, List.setIfInBounds_toArray, List.set_cons_zero, List.set_cons_succ]
  refine StepsS.skip ?h1 (w' := (w.alloc (.cells #[.int .i64 x, .int .i64 y, .int .i64 z] 82))) ?h2 ?_
  case h1 => kernel_rfl
  case h2 => simp [execOp, go_sem]
  try simp only [Act.put, List.setIfInBounds_toArray, List.set_cons_zero, List.set_cons_succ]
  refine StepsS.value ?h1 (w' := (w.alloc (.cells #[.int .i64 x, .int .i64 y, .int .i64 z] 82))) (v := .bool true) ?h2 ?_
  case h1 => kernel_rfl
  case h2 => simp [execOp, go_sem]
  try simp only [Act.put, List.setIfInBounds_toArray, List.set_cons_zero, List.set_cons_succ]
  refine StepsS.done ?_
  refine wpS_of_wp ?_
  go_wp2_with fail
  have ca : w.cell? ⟨B, 0, none⟩ = some (.int .i64 x0) := h.a.cell rfl
  have cb : w.cell? ⟨B + 1, 0, none⟩ = some (.int .i64 y0) := h.b.cell rfl
  have cc : w.cell? ⟨B + 1 + 1, 0, none⟩ = some (.int .i64 z0) := h.c.cell rfl
  go_region
  obtain ⟨r1, r2⟩ := res_set h x y z (.cells #[.int .i64 x, .int .i64 y, .int .i64 z] 82)
  go_wp2_with fail
  cases c₀
  simp only at hu
  subst hu
  simp [bodyPostS, results, Try.results29, r1, r2]
end Go.Proofs.Ytamkmmpockmpfaa
