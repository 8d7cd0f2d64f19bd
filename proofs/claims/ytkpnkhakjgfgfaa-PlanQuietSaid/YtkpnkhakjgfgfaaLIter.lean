/-
  The iterator list.numbers: its contract: the numbers of the queue, in order, whatever the body of the loop does that leaves the queue alone.
-/
import Derived.RangeFuncNested
import Derived.RangeFuncBound
import Derived.RangeFuncCalls
import Derived.RangeFuncLeaves
import Derived.RangeFuncBox
import Derived.Shelf.Abstract
import Derived.Shelf.RegionOpen
import Derived.OwnWalkIn
import Derived.TacticsInMore
import Derived.LoopNIn
import Derived.LoopIn
import Derived.Maps.AppendAt
import Derived.WalkSmall
import Derived.Test.YtkpnkhakjgfgfaaLDo
namespace Go.Proofs.Ytkpnkhakjgfgfaa.Lq
open Go.RowKit Go.Shelf

attribute [local go_sem] Oper.semAt_some

theorem But.grown0 {W W' : World} (h : But [] W W') : W.grownBy W' none := ⟨h.os, h.tape, h.output, h.size, fun k hk _ => h.block k hk (by simp)⟩
/-- What a round keeps: all that lay below n, and each variable that points to a queue. -/
def KeepQ (n : Nat) (W W' : World) : Prop := Below n W W' ∧ ∀ (k : Nat) (cs : Array Value) (z : Nat × Nat), W.heap[k]? = some (Obj.cells cs 78 z) → W'.heap[k]? = W.heap[k]?
theorem KeepQ.trans {n : Nat} {A B C : World} (h : KeepQ n A B) (k : KeepQ n B C) : KeepQ n A C :=
  ⟨h.1.trans k.1, fun i cs z hi => (k.2 i cs z ((h.2 i cs z hi).trans hi)).trans (h.2 i cs z hi)⟩
theorem Que.same {W W' : World} {B M : Nat} {xs : List Int} (h : Que W B M xs) (hB : W'.heap[B]? = W.heap[B]?) (hM : W'.heap[M]? = W.heap[M]?) : Que W' B M xs := by
  obtain ⟨g, f, l, h, k⟩ := h
  exact ⟨g, f, l, ⟨hB.trans h.head, h.map.of_block hM⟩, k⟩
theorem KeepQ.que {n : Nat} {W W' : World} (h : KeepQ n W W') {B M : Nat} {xs : List Int} (hQ : Que W B M xs) (hB : B < n) (hM : M < n) : Que W' B M xs :=
  hQ.same (h.1.block B hB) (h.1.block M hM)
theorem KeepQ.box {n : Nat} {W W' : World} (h : KeepQ n W W') {B : Nat} {v : Value} (hr : Boxed W B 78 v) : Boxed W' B 78 v :=
  (h.2 _ _ _ hr).trans hr
theorem KeepQ.grown {n : Nat} {W W' : World} {row : Option Nat} (hb : Below n W W') (h : W.grownBy W' row) (hr : ∀ (k : Nat) (cs : Array Value) (z : Nat × Nat), row = some k → W.heap[k]? = some (Obj.cells cs 78 z) → False) : KeepQ n W W' :=
  ⟨hb, fun k cs z hk => h.block k (Array.getElem?_eq_some_iff.1 hk).1 (fun e => hr k cs z e.symm hk)⟩
theorem KeepQ.putObj {n : Nat} {w : World} (hn : n ≤ w.heap.size) (W : World) (l : Nat) (o o' : Obj) (hl : w.heap.size ≤ l) (h : W.heap[l]? = some o) (ho : o.isCells = false) (hw : o.isWalk = false) : KeepQ n W (W.putObj l o') :=
  KeepQ.grown (belowK_b hn W l o o' hl h ho hw) (grownBy_putObj' W l o') (fun k cs z e hk => by cases e; rw [hk] at h; cases h; cases ho)

theorem nextE_get {xs : List Int} (hn : xs.Nodup) {j : Nat} {i : Int} (hj : xs[j]? = some i) : nextE xs i = xs[j + 1]? := by
  have : xs.idxOf? i = some j := by
    obtain ⟨h1, h2⟩ := List.getElem?_eq_some_iff.1 hj
    rw [List.idxOf?, List.findIdx?_eq_some_iff_getElem]
    refine ⟨h1, by simp [h2], fun k hk => ?_⟩
    have hlt : k < xs.length := by omega
    have := (List.pairwise_iff_getElem.1 hn) k j hlt h1 hk
    simp only [beq_iff_eq]
    rw [← h2]
    exact fun e => this e
  rw [nextE, this]

theorem take_snocI (xs : List Int) (k : Nat) (hk : k < xs.length) : xs.take (k + 1) = xs.take k ++ [xs[k]?.getD 0] := by
  rw [List.take_add_one, List.getElem?_eq_getElem hk]; rfl

/-- The measure of the iterator's loop. -/
def measQ (xs : List Int) (iv bv : Value) : Nat := match bv with
  | .bool true => xs.length - (xs.idxOf? (intOf iv)).getD 0
  | _ => 0
theorem measQ_less {xs : List Int} (hn : xs.Nodup) {j : Nat} {i : Int} (hj : xs[j]? = some i) : measQ xs (.int .i64 ((xs[j + 1]?).getD 0)) (.bool (decide (j + 1 < xs.length))) < measQ xs (.int .i64 i) (.bool true) := by
  have idx : ∀ {j : Nat} {i : Int}, xs[j]? = some i → xs.idxOf? i = some j := fun {j i} hj => by
    obtain ⟨h1, h2⟩ := List.getElem?_eq_some_iff.1 hj
    rw [List.idxOf?, List.findIdx?_eq_some_iff_getElem]
    refine ⟨h1, by simp [h2], fun k hk => ?_⟩
    have hlt : k < xs.length := by omega
    have := (List.pairwise_iff_getElem.1 hn) k j hlt h1 hk
    simp only [beq_iff_eq]
    rw [← h2]
    exact fun e => this e
  have hlt := (List.getElem?_eq_some_iff.1 hj).1
  by_cases h : j + 1 < xs.length
  · have h2 := List.getElem?_eq_getElem h
    simp only [measQ, intOf, h, decide_true, idx hj, h2, Option.getD_some, idx h2]
    omega
  · simp only [measQ, intOf, h, decide_false, idx hj, Option.getD_some]
    omega

end Go.Proofs.Ytkpnkhakjgfgfaa.Lq
