/-
  Channels of the model: who waits, what an operation does that comes; what may have been turned; pure.
-/
import Derived.Laws.StructEq
import Derived.Laws.EntriesVeiled
import Derived.Lib.SliceRun
import Derived.Maps.OwnSet
import Derived.Maps.OwnOps
import Derived.Deep.Cut
import Derived.Deep.CutRange
import Derived.Deep.RegionHeld3
import Derived.Deep.RegionLaw
import Derived.Test.YtbelfcfdgkmnmaaRPut
namespace Go.Proofs.Ytbelfcfdgkmnmaa
open Go.RowKit

/-- One that waits: its task, its case, its value. -/
structure Wt where
  t : Int
  c : Int
  v : Int
def Wt.val (x : Wt) : Value := .agg #[.int .i64 x.t, .int .i64 x.c, .int .i64 x.v]
def Wt.cellsL (x : Wt) : List Value := [.int .i64 x.t, .int .i64 x.c, .int .i64 x.v]
def Wt.zero : Wt := ⟨0, 0, 0⟩
def flatW (xs : List Wt) : List Value := xs.flatMap Wt.cellsL
theorem flatW_snoc (xs : List Wt) (x : Wt) : flatW (xs ++ [x]) = flatW xs ++ x.cellsL := by simp [flatW]
theorem flatW_len (xs : List Wt) : (flatW xs).length = xs.length * 3 := by
  induction xs with
  | nil => rfl
  | cons x t ih => simp only [flatW, List.flatMap_cons, List.length_append, List.length_cons] at ih ⊢; rw [ih]; simp [Wt.cellsL]; omega
theorem flatW_at {xs : List Wt} {j : Nat} {x : Wt} (h : xs[j]? = some x) : (flatW xs)[j * 3]? = some (.int .i64 x.t) ∧ (flatW xs)[j * 3 + 1]? = some (.int .i64 x.c) ∧ (flatW xs)[j * 3 + 2]? = some (.int .i64 x.v) := by
  induction xs generalizing j with
  | nil => simp at h
  | cons y t ih =>
    cases j with
    | zero => simp only [List.getElem?_cons_zero, Option.some.injEq] at h; subst h; simp [flatW, Wt.cellsL]
    | succ j =>
      obtain ⟨h0, h1, h2⟩ := ih (j := j) (by simpa using h)
      simp only [flatW, List.flatMap_cons, Wt.cellsL] at h0 h1 h2 ⊢
      refine ⟨?_, ?_, ?_⟩
      · rw [show (j + 1) * 3 = j * 3 + 3 by omega, List.getElem?_append_right (by simp)]; simpa using h0
      · rw [show (j + 1) * 3 + 1 = j * 3 + 1 + 3 by omega, List.getElem?_append_right (by simp)]; simpa using h1
      · rw [show (j + 1) * 3 + 2 = j * 3 + 2 + 3 by omega, List.getElem?_append_right (by simp)]; simpa using h2

/-- The row's number of those that wait to send, or to receive. -/
def ix (s : Bool) : Nat := if s then 0 else 1
theorem ix_lt (s : Bool) : ix s < 2 := by cases s <;> decide
/-- The first, if s is so. -/
def sel {α : Type} (s : Bool) (a b : α) : α := if s then a else b
/-- What an operation does that comes to send. -/
def toSendK (cl : Bool) (m : Nat) (buf : List Int) (R : List Wt) : Nat :=
  if cl = true then 1 else if R ≠ [] then 2 else if buf.length < m then 3 else 6
/-- What an operation does that comes to receive. -/
def toRecvK (cl : Bool) (m : Nat) (buf : List Int) (S : List Wt) : Nat :=
  if S ≠ [] then (if m = 0 then 2 else 4) else if buf ≠ [] then 3 else if cl = true then 5 else 6
def whatK (cl : Bool) (m : Nat) (buf : List Int) (S R : List Wt) (s : Bool) : Nat := if s then toSendK cl m buf R else toRecvK cl m buf S
/-- What came of it. -/
structure Gt where
  k : Nat
  p : Wt
  v : Int
  ok : Bool
  u : Int
def Gt.val (g : Gt) : Value := .agg #[.int .u8 (g.k : Int), .int .i64 g.p.t, .int .i64 g.p.c, .int .i64 g.p.v, .int .i64 g.v, .bool g.ok, .int .i64 g.u]
def Gt.zero : Gt := ⟨0, .zero, 0, false, 0⟩

/-! ### What may have been turned: the blocks of F, and new ones -/
structure Frm (F : Nat → Prop) (w w' : World) : Prop where
  os : w'.os = w.os
  tape : w'.tape = w.tape
  output : w'.output = w.output
  size : w.heap.size ≤ w'.heap.size
  block : ∀ k, k < w.heap.size → ¬ F k → w'.heap[k]? = w.heap[k]?
/-- F, and what is new since w. -/
def Fw (F : Nat → Prop) (w : World) : Nat → Prop := fun k => F k ∨ w.heap.size ≤ k
section
variable {F : Nat → Prop} {w w1 w2 : World}
theorem Frm.refl (F : Nat → Prop) (w : World) : Frm F w w := ⟨rfl, rfl, rfl, Nat.le_refl _, fun _ _ _ => rfl⟩
theorem Frm.next (h : Frm F w w1) (k : Frm (Fw F w) w1 w2) : Frm F w w2 :=
  ⟨k.os.trans h.os, k.tape.trans h.tape, k.output.trans h.output, Nat.le_trans h.size k.size,
   fun i hi hn => (k.block i (Nat.lt_of_lt_of_le hi h.size) (fun e => e.elim hn (fun e => by omega))).trans (h.block i hi hn)⟩
theorem Frm.mono {G : Nat → Prop} (h : Frm F w w1) (hG : ∀ k, F k → G k) : Frm G w w1 := ⟨h.os, h.tape, h.output, h.size, fun k hk hn => h.block k hk (fun e => hn (hG k e))⟩
theorem Frm.of_below (h : Below w.heap.size w w1) (F : Nat → Prop) : Frm F w w1 := ⟨h.os, h.tape, h.output, h.size, fun k hk _ => h.block k hk⟩
theorem Frm.of_grown {row : Option Nat} (h : w.grownBy w1 row) (hr : ∀ k, row = some k → F k) : Frm F w w1 := ⟨h.os, h.tape, h.output, h.size, fun k hk hn => h.block k hk (fun e => hn (hr k e.symm))⟩
theorem Frm.below (h : Frm F w w1) {n : Nat} (hn : n ≤ w.heap.size) (hF : ∀ k, F k → n ≤ k) : Below n w w1 :=
  ⟨h.os, h.tape, h.output, h.size, fun k hk => h.block k (by omega) (fun e => by have := hF k e; omega)⟩
theorem Frm.boxed (h : Frm F w w1) {B : Nat} {t : TypeId} {v : Value} (hb : Boxed w B t v) (hn : ¬ F B) : Boxed w1 B t v := (h.block B hb.lt hn).trans hb
theorem Frm.set {p : Addr} (w : World) (v : Value) (hp : F p.block) : Frm F w (w.setCell p v) := Frm.of_grown (grownBy_setCell w p v) (fun k e => by cases e; exact hp)
theorem Frm.drew (h : Frm F w w1) : Frm F w w1.drew := ⟨h.os, h.tape, h.output, h.size, h.block⟩
theorem Fw.fw {k : Nat} (hs : w.heap.size ≤ w1.heap.size) (h : Fw (Fw F w) w1 k) : Fw F w k := h.elim id (fun e => .inr (Nat.le_trans hs e))
end
theorem below_nx {n : Nat} {w w1 w2 : World} (h : Below n w w1) (k : Below w1.heap.size w1 w2) (hn : n ≤ w.heap.size) : Below n w w2 :=
  h.trans (k.mono (Nat.le_trans hn h.size))
theorem below1 (w : World) (o : Obj) : Below w.heap.size w (w.alloc o) := (Below.refl _ w).alloc (Nat.le_refl _) _
theorem Below.al {n : Nat} {w W : World} (h : Below n w W) (hn : n ≤ W.heap.size) (o : Obj) : Below n w (W.alloc o) := h.alloc hn o
theorem boxed_below {w w1 : World} {B : Nat} {t : TypeId} {v : Value} (h : Boxed w B t v) (hb : Below w.heap.size w w1) : Boxed w1 B t v := (hb.block B h.lt).trans h

/-! ### One that waits, in memory -/
/-- Block B is the one x that waits. -/
def WtAt (W : World) (B : Nat) (x : Wt) : Prop := W.heap[B]? = some (.cells #[.int .i64 x.t, .int .i64 x.c, .int .i64 x.v] 31 (0, 0))
section
variable {W W' : World} {B : Nat} {x : Wt}
theorem WtAt.lt (h : WtAt W B x) : B < W.heap.size := (Array.getElem?_eq_some_iff.1 h).1
theorem WtAt.of_block (h : WtAt W B x) (hb : W'.heap[B]? = W.heap[B]?) : WtAt W' B x := hb.trans h
theorem WtAt.c0 (h : WtAt W B x) : W.cell? ⟨B, 0, none⟩ = some (.int .i64 x.t) := by simp [World.cell?, show W.heap[B]? = _ from h]
theorem WtAt.c1 (h : WtAt W B x) : W.cell? ⟨B, 1, none⟩ = some (.int .i64 x.c) := by simp [World.cell?, show W.heap[B]? = _ from h]
theorem WtAt.c2 (h : WtAt W B x) : W.cell? ⟨B, 2, none⟩ = some (.int .i64 x.v) := by simp [World.cell?, show W.heap[B]? = _ from h]
theorem WtAt.frozen (h : WtAt W B x) (k : Nat) : W.frozen? ⟨B, k, none⟩ = false := by simp [World.frozen?, show W.heap[B]? = _ from h]
theorem wtAt_new (W : World) (x : Wt) : WtAt (W.alloc (.cells #[.int .i64 x.t, .int .i64 x.c, .int .i64 x.v] 31)) W.heap.size x := World.alloc_heap_new W _
theorem WtAt.alloc (h : WtAt W B x) (o : Obj) : WtAt (W.alloc o) B x := h.of_block ((World.grownBy_alloc W o none).block B h.lt (by simp))
theorem WtAt.below (h : WtAt W B x) (hb : Below W.heap.size W W') : WtAt W' B x := h.of_block (hb.block B h.lt)
theorem WtAt.set (h : WtAt W B x) (z : Wt) : WtAt (((W.setCell ⟨B, 0, none⟩ (.int .i64 z.t)).setCell ⟨B, 1, none⟩ (.int .i64 z.c)).setCell ⟨B, 2, none⟩ (.int .i64 z.v)) B z := by
  have h0 := heap_setCell_same (k := 0) (.int .i64 z.t) h
  have h1 := heap_setCell_same (k := 1) (.int .i64 z.c) h0
  have h2 := heap_setCell_same (k := 2) (.int .i64 z.v) h1
  simpa [WtAt] using h2
theorem wt_cell (h : WtAt W B x) (j : Nat) (u : Value) (hj : x.cellsL[j]? = some u) : W.cell? (Addr.add ⟨B, 0, none⟩ j) = some u := by
  rw [show Addr.add ⟨B, 0, none⟩ j = ⟨B, j, none⟩ by by_cases e : j = 0 <;> simp [Addr.add, e]]
  simp only [World.cell?, show W.heap[_]? = _ from h]
  simpa [Wt.cellsL] using hj
end
theorem wt_one (x : Wt) : ∀ u ∈ x.cellsL, u.oneCell' = true := by simp [Wt.cellsL, Value.oneCell']
theorem flatW_one (xs : List Wt) : ∀ u ∈ flatW xs, u.oneCell' = true := fun u h => by
  obtain ⟨x, _, hx⟩ := List.mem_flatMap.1 h
  exact wt_one x u hx
theorem infoWait : (Try.prog.info? 31).map (fun i => (i.zero, i.size, i.bytes)) = some (some (.agg #[.int .i64 0, .int .i64 0, .int .i64 0]), 3, 24) := by kernel_rfl
theorem owns_slice' {w : World} {base : Nat} {e : TypeId} {size : Nat} {v : Value} {k : Nat} {xs : List Value} (h : w.ownsRow base e size v k xs) : ∃ a c, v = .slice a k c := by
  rcases h.2 with ⟨rfl, rfl⟩ | ⟨g, cap, _, rfl, _⟩
  · exact ⟨_, _, rfl⟩
  · exact ⟨_, _, rfl⟩
/-- The cells of the one in place j of a row. -/
theorem row_at {W : World} {b : Nat} {v : Value} {xs : List Wt} (h : W.ownsRow b 31 3 v xs.length (flatW xs)) {j : Nat} {x : Wt} (hj : xs[j]? = some x) :
    ∃ g cap, v = .slice (some ⟨g, 0, none⟩) xs.length cap ∧ W.cell? ⟨g, j * 3, none⟩ = some (.int .i64 x.t) ∧ W.cell? ⟨g, j * 3 + 1, none⟩ = some (.int .i64 x.c) ∧ W.cell? ⟨g, j * 3 + 2, none⟩ = some (.int .i64 x.v) := by
  have hlt : j < xs.length := (List.getElem?_eq_some_iff.1 hj).1
  rcases h.2 with ⟨_, h0⟩ | ⟨g, cap, cur, rfl, _, hb, _, _, hcs, ht⟩
  · omega
  obtain ⟨h0, h1, h2⟩ := flatW_at hj
  have key : ∀ k, k < xs.length * 3 → W.cell? ⟨g, k, none⟩ = (flatW xs)[k]? := fun k hk => by
    simp only [World.cell?, hb]
    rw [← ht, List.getElem?_take, if_pos hk]; simp
  exact ⟨g, cap, rfl, (key _ (by omega)).trans h0, (key _ (by omega)).trans h1, (key _ (by omega)).trans h2⟩
end Go.Proofs.Ytbelfcfdgkmnmaa
