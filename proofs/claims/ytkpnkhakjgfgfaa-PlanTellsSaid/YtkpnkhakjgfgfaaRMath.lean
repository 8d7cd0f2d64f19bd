/-
  Rings: their cells in memory, what they hold in order, what is answered; pure.
-/
import Derived.Lib.Hide
import Derived.Test.YtkpnkhakjgfgfaaRows
import Derived.WalkKit
import Derived.WalkLawsBesides
import Derived.WalkSpells
import Derived.Outline
import Derived.Below
import Derived.RangeFuncBox
import Derived.BigQuiet
import Derived.Maps.AppendAt
namespace Go.Proofs.Ytkpnkhakjgfgfaa.Rg
open Go.RowKit

def I64 (xs : List Int) : List Value := xs.map (Value.int .i64)

/-- The value in place (f + i) of eight. -/
def slotOf (f i : Nat) : Nat := (f + i) % 8
def heldBy (vs : List Int) (f n : Nat) : List Int := (List.range n).map fun i => vs[slotOf f i]?.getD 0

def tail3 (f n m : Nat) : List Value := [Value.int .i64 (f : Int), .int .i64 (n : Int), .int .i64 (m : Int)]

/-- Block B is a ring's: eight places, first, n, most. -/
def RawAt (W : World) (B : Nat) (vs : List Int) (f n m : Nat) : Prop :=
  vs.length = 8 ∧ W.heap[B]? = some (.cells (I64 vs ++ tail3 f n m).toArray 96 (0, 0))

/-- Block B is a ring of that most, which has l. -/
def Rng (W : World) (B m : Nat) (l : List Int) : Prop :=
  ∃ vs f, RawAt W B vs f l.length m ∧ l = heldBy vs f l.length ∧ f < 8 ∧ l.length ≤ m ∧ m ≤ 8

theorem RawAt.lt {W : World} {B : Nat} {vs : List Int} {f n m : Nat} (h : RawAt W B vs f n m) : B < W.heap.size := (Array.getElem?_eq_some_iff.1 h.2).1
theorem Rng.lt {W : World} {B m : Nat} {l : List Int} (h : Rng W B m l) : B < W.heap.size := by obtain ⟨_, _, h, _⟩ := h; exact h.lt

theorem RawAt.cellAt {W : World} {B : Nat} {vs : List Int} {f n m : Nat} (h : RawAt W B vs f n m) (k : Nat) : W.cell? ⟨B, k, none⟩ = (I64 vs ++ tail3 f n m)[k]? := by
  simp [World.cell?, h.2]
theorem I64_len (xs : List Int) : (I64 xs).length = xs.length := by simp [I64]
theorem RawAt.cellV {W : World} {B : Nat} {vs : List Int} {f n m : Nat} (h : RawAt W B vs f n m) {k : Nat} (hk : k < 8) : W.cell? ⟨B, k, none⟩ = some (.int .i64 (vs[k]?.getD 0)) := by
  have hl := h.1
  rw [h.cellAt, List.getElem?_append_left (by rw [I64_len]; omega), I64, List.getElem?_map, List.getElem?_eq_getElem (by omega)]; rfl
theorem RawAt.cellF {W : World} {B : Nat} {vs : List Int} {f n m : Nat} (h : RawAt W B vs f n m) : W.cell? ⟨B, 8, none⟩ = some (.int .i64 (f : Int)) := by
  rw [h.cellAt, List.getElem?_append_right (by rw [I64_len, h.1]; omega), I64_len, h.1]; rfl
theorem RawAt.cellN {W : World} {B : Nat} {vs : List Int} {f n m : Nat} (h : RawAt W B vs f n m) : W.cell? ⟨B, 9, none⟩ = some (.int .i64 (n : Int)) := by
  rw [h.cellAt, List.getElem?_append_right (by rw [I64_len, h.1]; omega), I64_len, h.1]; rfl
theorem RawAt.cellM {W : World} {B : Nat} {vs : List Int} {f n m : Nat} (h : RawAt W B vs f n m) : W.cell? ⟨B, 10, none⟩ = some (.int .i64 (m : Int)) := by
  rw [h.cellAt, List.getElem?_append_right (by rw [I64_len, h.1]; omega), I64_len, h.1]; rfl
theorem RawAt.frozen {W : World} {B : Nat} {vs : List Int} {f n m : Nat} (h : RawAt W B vs f n m) (k : Nat) : W.frozen? ⟨B, k, none⟩ = false := by
  simp [World.frozen?, h.2]

theorem RawAt.kept {W W' : World} {row : Option Nat} {B : Nat} {vs : List Int} {f n m : Nat} (h : RawAt W B vs f n m) (hg : W.grownBy W' row) (hne : some B ≠ row) : RawAt W' B vs f n m :=
  ⟨h.1, (hg.block B h.lt hne).trans h.2⟩
theorem Rng.kept {W W' : World} {row : Option Nat} {B m : Nat} {l : List Int} (h : Rng W B m l) (hg : W.grownBy W' row) (hne : some B ≠ row) : Rng W' B m l := by
  obtain ⟨vs, f, h, r⟩ := h; exact ⟨vs, f, h.kept hg hne, r⟩
theorem RawAt.of_block {W W' : World} {B : Nat} {vs : List Int} {f n m : Nat} (h : RawAt W B vs f n m) (hg : W'.heap[B]? = W.heap[B]?) : RawAt W' B vs f n m := ⟨h.1, hg.trans h.2⟩
theorem RawAt.drew {W : World} {B : Nat} {vs : List Int} {f n m : Nat} (h : RawAt W B vs f n m) : RawAt W.drew B vs f n m := h

theorem heap_setCell_same {W : World} {B k : Nat} {cs : Array Value} {t : TypeId} {z : Nat × Nat} (v : Value) (h : W.heap[B]? = some (.cells cs t z)) : (W.setCell ⟨B, k, none⟩ v).heap[B]? = some (.cells (cs.setIfInBounds k v) t z) := by
  obtain ⟨hlt, hk⟩ := Array.getElem?_eq_some_iff.1 h
  show (W.heap.modify B _)[B]? = _
  rw [Array.getElem?_eq_getElem (by rw [Array.size_modify]; exact hlt), Array.getElem_modify_self, hk]
  rfl

theorem RawAt.setV {W : World} {B : Nat} {vs : List Int} {f n m : Nat} (h : RawAt W B vs f n m) {k : Nat} (hk : k < 8) (x : Int) : RawAt (W.setCell ⟨B, k, none⟩ (.int .i64 x)) B (vs.set k x) f n m := by
  refine ⟨by simp [h.1], (heap_setCell_same _ h.2).trans ?_⟩
  have hl := h.1
  rw [List.setIfInBounds_toArray, List.set_append_left _ _ (by rw [I64_len]; omega)]
  simp [I64, List.map_set]
theorem RawAt.setF {W : World} {B : Nat} {vs : List Int} {f n m : Nat} (h : RawAt W B vs f n m) (x : Nat) {k : Int} (hk : k = (x : Int)) : RawAt (W.setCell ⟨B, 8, none⟩ (.int .i64 k)) B vs x n m := by
  subst hk
  refine ⟨h.1, (heap_setCell_same _ h.2).trans ?_⟩
  have hl := h.1
  rw [List.setIfInBounds_toArray, List.set_append_right _ _ (by rw [I64_len]; omega), I64_len, hl]; rfl
theorem RawAt.setN {W : World} {B : Nat} {vs : List Int} {f n m : Nat} (h : RawAt W B vs f n m) (x : Nat) {k : Int} (hk : k = (x : Int)) : RawAt (W.setCell ⟨B, 9, none⟩ (.int .i64 k)) B vs f x m := by
  subst hk
  refine ⟨h.1, (heap_setCell_same _ h.2).trans ?_⟩
  have hl := h.1
  rw [List.setIfInBounds_toArray, List.set_append_right _ _ (by rw [I64_len]; omega), I64_len, hl]; rfl

/-! ### What is answered -/
def putE (m : Nat) (l : List Int) : Int := if l.length = m then 4 else 0
def putL (m : Nat) (l : List Int) (v : Int) : List Int := if l.length = m then l else l ++ [v]
def takeE (l : List Int) : Int := if l = [] then 3 else 0
def swapV (m : Nat) (l : List Int) : Int := if l.length < m then 0 else l.head?.getD 0
def swapE (m : Nat) (l : List Int) : Int := if l.length < m ∨ l = [] then 3 else 0
def swapL (m : Nat) (l : List Int) (v : Int) : List Int := if l.length < m ∨ l = [] then l else l.tail ++ [v]

theorem Rng.mk' {W : World} {B m f n : Nat} {vs l : List Int} (h : RawAt W B vs f n m) (hl : l = heldBy vs f n) (hlen : l.length = n) (hf : f < 8) (hn : n ≤ m) (hm : m ≤ 8) : Rng W B m l := by
  subst hlen
  exact ⟨vs, f, h, hl, hf, hn, hm⟩
theorem heldBy_len (vs : List Int) (f n : Nat) : (heldBy vs f n).length = n := by simp [heldBy]
theorem heldBy_succ (vs : List Int) (f n : Nat) : heldBy vs f (n + 1) = heldBy vs f n ++ [vs[slotOf f n]?.getD 0] := by simp [heldBy, List.range_succ]
theorem heldBy_get (vs : List Int) (f n i : Nat) (h : i < n) : (heldBy vs f n)[i]?.getD 0 = vs[slotOf f i]?.getD 0 := by
  simp [heldBy, List.getElem?_map, List.getElem?_range h]

theorem slotOf_lt (f i : Nat) : slotOf f i < 8 := Nat.mod_lt _ (by omega)
theorem slotOf_ne {f i j : Nat} (hi : i < j) (hj : j < 8) : slotOf f i ≠ slotOf f j := by unfold slotOf; omega

theorem heldBy_put {vs : List Int} {f n : Nat} (hl : vs.length = 8) (hn : n < 8) (x : Int) : heldBy (vs.set (slotOf f n) x) f (n + 1) = heldBy vs f n ++ [x] := by
  rw [heldBy_succ]
  have hs := slotOf_lt f n
  congr 1
  · refine List.map_congr_left fun i hi => ?_
    have hi : i < n := List.mem_range.mp hi
    rw [List.getElem?_set_ne (slotOf_ne hi hn).symm]
  · rw [List.getElem?_set_self (by omega)]; rfl
theorem heldBy_take {vs : List Int} {f n : Nat} (hf : f < 8) (hn : n < 8) (x : Int) : heldBy vs f (n + 1) = vs[f]?.getD 0 :: heldBy (vs.set f x) (slotOf f 1) n := by
  unfold heldBy
  rw [List.range_succ_eq_map, List.map_cons, List.map_map]
  congr 1
  · rw [show slotOf f 0 = f by unfold slotOf; omega]
  · refine List.map_congr_left fun i hi => ?_
    have hi : i < n := List.mem_range.mp hi
    have h1 : slotOf (slotOf f 1) i = slotOf f (i + 1) := by unfold slotOf; omega
    have h2 : f ≠ slotOf f (i + 1) := by unfold slotOf; omega
    show vs[slotOf f (i + 1)]?.getD 0 = _
    rw [h1, List.getElem?_set_ne h2]
end Go.Proofs.Ytkpnkhakjgfgfaa.Rg
