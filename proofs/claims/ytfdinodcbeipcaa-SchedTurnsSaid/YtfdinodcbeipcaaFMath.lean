/-
  Rows of tasks: their cells in memory, what they hold in order, what is answered; pure.
-/
import Derived.Lib.Hide
import Derived.Test.YtfdinodcbeipcaaRows
import Derived.WalkKit
import Derived.WalkLawsBesides
import Derived.WalkSpells
import Derived.WalkArith
import Derived.Outline
import Derived.Below
import Derived.RangeFuncBox
import Derived.BigQuiet
import Derived.OwnWalk
import Derived.StillTailTactics
import Derived.Maps.AppendAt
namespace Go.Proofs.Ytfdinodcbeipcaa
open Go.RowKit

/-! ### What may have been turned: the blocks of a list, and new ones -/
structure But (S : List Nat) (w w' : World) : Prop where
  os : w'.os = w.os
  tape : w'.tape = w.tape
  output : w'.output = w.output
  size : w.heap.size ≤ w'.heap.size
  block : ∀ k, k < w.heap.size → k ∉ S → w'.heap[k]? = w.heap[k]?

theorem But.refl (S : List Nat) (w : World) : But S w w := ⟨rfl, rfl, rfl, Nat.le_refl _, fun _ _ _ => rfl⟩
theorem But.mono {S T : List Nat} {w w' : World} (h : But S w w') (hS : ∀ k ∈ S, k ∈ T) : But T w w' := ⟨h.os, h.tape, h.output, h.size, fun k hk hn => h.block k hk (fun e => hn (hS k e))⟩
theorem But.trans {S T : List Nat} {a b c : World} (h : But S a b) (k : But T b c) (hT : ∀ x ∈ T, x < a.heap.size → x ∈ S) : But S a c :=
  ⟨k.os.trans h.os, k.tape.trans h.tape, k.output.trans h.output, Nat.le_trans h.size k.size,
   fun i hi hn => (k.block i (Nat.lt_of_lt_of_le hi h.size) (fun e => hn (hT i e hi))).trans (h.block i hi hn)⟩
theorem But.next {S : List Nat} {a b c : World} (h : But S a b) (k : But S b c) : But S a c := h.trans k (fun _ h _ => h)
theorem But.own {S T : List Nat} {a b c : World} (h : But S a b) (k : But T b c) (hT : ∀ x ∈ T, a.heap.size ≤ x) : But S a c := h.trans k (fun x hx h0 => by have := hT x hx; omega)
theorem But.of_none {w w' : World} (h : w.grownBy w' none) (S : List Nat) : But S w w' := ⟨h.os, h.tape, h.output, h.size, fun k hk _ => h.block k hk (by simp)⟩
theorem But.of_some {w w' : World} {B : Nat} (h : w.grownBy w' (some B)) {S : List Nat} (hB : B ∈ S) : But S w w' := ⟨h.os, h.tape, h.output, h.size, fun k hk hn => h.block k hk (fun e => by cases e; exact hn hB)⟩
theorem But.drewN {S : List Nat} {w w' : World} (h : But S w w') (n : Nat) : But S w (w'.drewN n) := ⟨h.os, h.tape, h.output, h.size, h.block⟩
theorem But.drew {S : List Nat} {w w' : World} (h : But S w w') : But S w w'.drew := ⟨h.os, h.tape, h.output, h.size, h.block⟩
theorem But.alloc {S : List Nat} {w w' : World} (h : But S w w') (o : Obj) : But S w (w'.alloc o) := h.trans (.of_none (World.grownBy_alloc w' o none) []) (by simp)
theorem But.set {S : List Nat} {w w' : World} (h : But S w w') {p : Addr} (hp : p.block ∈ S ∨ w.heap.size ≤ p.block) (v : Value) : But S w (w'.setCell p v) :=
  ⟨h.os, h.tape, h.output, by simpa [World.setCell] using h.size, fun k hk hn => (Below.heap_setCell w' p v k (fun e => by subst e; rcases hp with hp | hp; exact hn hp; omega)).trans (h.block k hk hn)⟩
theorem But.cell {S : List Nat} {w w' : World} (h : But S w w') {p : Addr} {v : Value} (hv : w.cell? p = some v) (hn : p.block ∉ S) : w'.cell? p = some v :=
  (World.cell?_of_block (w := w) (h.block p.block (World.block_lt_of_cell? w p hv) hn)).trans hv
theorem But.frozen {S : List Nat} {w w' : World} (h : But S w w') {p : Addr} {b : Bool} (hv : w.frozen? p = b) (hl : p.block < w.heap.size) (hn : p.block ∉ S) : w'.frozen? p = b :=
  (World.frozen?_of_block (w := w) (h.block p.block hl hn)).trans hv
theorem But.boxed {S : List Nat} {w w' : World} (h : But S w w') {B : Nat} {t : TypeId} {v : Value} (hb : Boxed w B t v) (hn : B ∉ S) : Boxed w' B t v := (h.block B hb.lt hn).trans hb
theorem But.below {S : List Nat} {w w' : World} (h : But S w w') {n : Nat} (hn : n ≤ w.heap.size) (hS : ∀ k ∈ S, n ≤ k) : Below n w w' :=
  ⟨h.os, h.tape, h.output, h.size, fun k hk => h.block k (Nat.lt_of_lt_of_le hk hn) (fun e => Nat.lt_irrefl _ (Nat.lt_of_lt_of_le hk (hS k e)))⟩
theorem But.of_below {w w' : World} (h : Below w.heap.size w w') (S : List Nat) : But S w w' := ⟨h.os, h.tape, h.output, h.size, fun k hk _ => h.block k hk⟩
theorem But.row {S : List Nat} {w w' : World} (h : But S w w') {base : Nat} {e : TypeId} {size : Nat} {v : Value} {n : Nat} {xs : List Value} (hr : w.ownsRow base e size v n xs) (hn : ∀ g, v.ownBlock = some g → g ∉ S) : w'.ownsRow base e size v n xs := by
  refine ⟨hr.1, ?_⟩
  rcases hr.2 with h0 | ⟨g, cap, cur, rfl, hg, hb, r⟩
  · exact .inl h0
  · exact .inr ⟨g, cap, cur, rfl, hg, (h.block g (Array.getElem?_eq_some_iff.1 hb).1 (hn g rfl)).trans hb, r⟩
theorem type_ne {W : World} {A B : Nat} {cs ds : Array Value} {t u : TypeId} {z y : Nat × Nat} (h : W.heap[A]? = some (.cells cs t z)) (k : W.heap[B]? = some (.cells ds u y)) (hne : t ≠ u) : A ≠ B := by
  rintro rfl
  have := h.symm.trans k
  simp only [Option.some.injEq, Obj.cells.injEq] at this
  exact hne this.2.1
theorem heap_set_same {W : World} {B k : Nat} {cs : Array Value} {t : TypeId} {z : Nat × Nat} (v : Value) (h : W.heap[B]? = some (.cells cs t z)) : (W.setCell ⟨B, k, none⟩ v).heap[B]? = some (.cells (cs.setIfInBounds k v) t z) := by
  obtain ⟨hlt, hk⟩ := Array.getElem?_eq_some_iff.1 h
  show (W.heap.modify B _)[B]? = _
  rw [Array.getElem?_eq_getElem (by rw [Array.size_modify]; exact hlt), Array.getElem_modify_self, hk]
  rfl


/-! ### Cells -/
def I64 (xs : List Int) : List Value := xs.map (Value.int .i64)

/-- The value in place (f + i) of 32. -/
def slotOf (f i : Nat) : Nat := (f + i) % 32
def heldBy (vs : List Int) (f n : Nat) : List Int := (List.range n).map fun i => vs[slotOf f i]?.getD 0

def tail3 (f n m : Nat) : List Value := [Value.int .i64 (f : Int), .int .i64 (n : Int), .int .i64 (m : Int)]

/-- Block B is a ring's: 32 places, first, n, most. -/
def RawAt (W : World) (B : Nat) (vs : List Int) (f n m : Nat) : Prop :=
  vs.length = 32 ∧ W.heap[B]? = some (.cells (I64 vs ++ tail3 f n m).toArray 63 (0, 0))

/-- Block B is a row of that most, which has l. -/
structure Fif (W : World) (B m : Nat) (l : List Int) : Prop where
  raw : ∃ vs f, RawAt W B vs f l.length m ∧ l = heldBy vs f l.length ∧ f < 32
  le : l.length ≤ m
  most : m ≤ 32
  nd : l.Nodup
  rng : ∀ x ∈ l, 0 ≤ x ∧ x < 32

theorem RawAt.lt {W : World} {B : Nat} {vs : List Int} {f n m : Nat} (h : RawAt W B vs f n m) : B < W.heap.size := (Array.getElem?_eq_some_iff.1 h.2).1
theorem Fif.lt {W : World} {B m : Nat} {l : List Int} (h : Fif W B m l) : B < W.heap.size := by obtain ⟨_, _, h, _⟩ := h.raw; exact h.lt

theorem RawAt.cellAt {W : World} {B : Nat} {vs : List Int} {f n m : Nat} (h : RawAt W B vs f n m) (k : Nat) : W.cell? ⟨B, k, none⟩ = (I64 vs ++ tail3 f n m)[k]? := by
  simp [World.cell?, h.2]
theorem I64_len (xs : List Int) : (I64 xs).length = xs.length := by simp [I64]
theorem RawAt.cellV {W : World} {B : Nat} {vs : List Int} {f n m : Nat} (h : RawAt W B vs f n m) {k : Nat} (hk : k < 32) : W.cell? ⟨B, k, none⟩ = some (.int .i64 (vs[k]?.getD 0)) := by
  have hl := h.1
  rw [h.cellAt, List.getElem?_append_left (by rw [I64_len]; omega), I64, List.getElem?_map, List.getElem?_eq_getElem (by omega)]; rfl
theorem RawAt.cellF {W : World} {B : Nat} {vs : List Int} {f n m : Nat} (h : RawAt W B vs f n m) : W.cell? ⟨B, 32, none⟩ = some (.int .i64 (f : Int)) := by
  rw [h.cellAt, List.getElem?_append_right (by rw [I64_len, h.1]; omega), I64_len, h.1]; rfl
theorem RawAt.cellN {W : World} {B : Nat} {vs : List Int} {f n m : Nat} (h : RawAt W B vs f n m) : W.cell? ⟨B, 33, none⟩ = some (.int .i64 (n : Int)) := by
  rw [h.cellAt, List.getElem?_append_right (by rw [I64_len, h.1]; omega), I64_len, h.1]; rfl
theorem RawAt.cellM {W : World} {B : Nat} {vs : List Int} {f n m : Nat} (h : RawAt W B vs f n m) : W.cell? ⟨B, 34, none⟩ = some (.int .i64 (m : Int)) := by
  rw [h.cellAt, List.getElem?_append_right (by rw [I64_len, h.1]; omega), I64_len, h.1]; rfl
theorem RawAt.frozen {W : World} {B : Nat} {vs : List Int} {f n m : Nat} (h : RawAt W B vs f n m) (k : Nat) : W.frozen? ⟨B, k, none⟩ = false := by
  simp [World.frozen?, h.2]

theorem RawAt.kept {W W' : World} {row : Option Nat} {B : Nat} {vs : List Int} {f n m : Nat} (h : RawAt W B vs f n m) (hg : W.grownBy W' row) (hne : some B ≠ row) : RawAt W' B vs f n m :=
  ⟨h.1, (hg.block B h.lt hne).trans h.2⟩
theorem RawAt.of_block {W W' : World} {B : Nat} {vs : List Int} {f n m : Nat} (h : RawAt W B vs f n m) (hg : W'.heap[B]? = W.heap[B]?) : RawAt W' B vs f n m := ⟨h.1, hg.trans h.2⟩
theorem RawAt.but {W W' : World} {S : List Nat} {B : Nat} {vs : List Int} {f n m : Nat} (h : RawAt W B vs f n m) (hb : But S W W') (hB : B ∉ S) : RawAt W' B vs f n m := h.of_block (hb.block B h.lt hB)
theorem Fif.but {W W' : World} {S : List Nat} {B m : Nat} {l : List Int} (h : Fif W B m l) (hb : But S W W') (hB : B ∉ S) : Fif W' B m l := by
  obtain ⟨vs, f, h1, r⟩ := h.raw
  exact ⟨⟨vs, f, h1.but hb hB, r⟩, h.le, h.most, h.nd, h.rng⟩
theorem Fif.fresh {W W' : World} {B m : Nat} {l : List Int} (h : Fif W B m l) (hb : But [] W W') : Fif W' B m l := h.but hb (by simp)
theorem Fif.below {W W' : World} {B m : Nat} {l : List Int} (h : Fif W B m l) (hb : Below W.heap.size W W') : Fif W' B m l := h.fresh (But.of_below hb [])
theorem RawAt.drew {W : World} {B : Nat} {vs : List Int} {f n m : Nat} (h : RawAt W B vs f n m) : RawAt W.drew B vs f n m := h

theorem RawAt.setV {W : World} {B : Nat} {vs : List Int} {f n m : Nat} (h : RawAt W B vs f n m) {k : Nat} (hk : k < 32) (x : Int) : RawAt (W.setCell ⟨B, k, none⟩ (.int .i64 x)) B (vs.set k x) f n m := by
  refine ⟨by simp [h.1], (heap_set_same _ h.2).trans ?_⟩
  have hl := h.1
  rw [List.setIfInBounds_toArray, List.set_append_left _ _ (by rw [I64_len]; omega)]
  simp [I64, List.map_set]
theorem RawAt.setF {W : World} {B : Nat} {vs : List Int} {f n m : Nat} (h : RawAt W B vs f n m) (x : Nat) {k : Int} (hk : k = (x : Int)) : RawAt (W.setCell ⟨B, 32, none⟩ (.int .i64 k)) B vs x n m := by
  subst hk
  refine ⟨h.1, (heap_set_same _ h.2).trans ?_⟩
  have hl := h.1
  rw [List.setIfInBounds_toArray, List.set_append_right _ _ (by rw [I64_len]; omega), I64_len, hl]; rfl
theorem RawAt.setN {W : World} {B : Nat} {vs : List Int} {f n m : Nat} (h : RawAt W B vs f n m) (x : Nat) {k : Int} (hk : k = (x : Int)) : RawAt (W.setCell ⟨B, 33, none⟩ (.int .i64 k)) B vs f x m := by
  subst hk
  refine ⟨h.1, (heap_set_same _ h.2).trans ?_⟩
  have hl := h.1
  rw [List.setIfInBounds_toArray, List.set_append_right _ _ (by rw [I64_len]; omega), I64_len, hl]; rfl

/-! ### What is answered -/
/-- An int of Go's. -/
def I64b (i : Int) : Prop := -9223372036854775808 ≤ i ∧ i ≤ 9223372036854775807
def pushE (m : Nat) (l : List Int) (k : Int) : Int := if k < 0 ∨ 32 ≤ k then 2 else if k ∈ l then 9 else if l.length = m then 4 else 0
def pushX (m : Nat) (l : List Int) (k : Int) : List Int := if k < 0 ∨ 32 ≤ k then l else if k ∈ l then l else if l.length = m then l else l ++ [k]
def popE (l : List Int) : Int := if l = [] then 3 else 0
def dropE (l : List Int) (k : Int) : Int := if k ∈ l then 0 else 3

theorem Fif.mk' {W : World} {B m f n : Nat} {vs l : List Int} (h : RawAt W B vs f n m) (hl : l = heldBy vs f n) (hlen : l.length = n) (hf : f < 32) (hn : n ≤ m) (hm : m ≤ 32) (hd : l.Nodup) (hr : ∀ x ∈ l, 0 ≤ x ∧ x < 32) : Fif W B m l := by
  subst hlen
  exact ⟨⟨vs, f, h, hl, hf⟩, hn, hm, hd, hr⟩
theorem heldBy_len (vs : List Int) (f n : Nat) : (heldBy vs f n).length = n := by simp [heldBy]
theorem heldBy_succ (vs : List Int) (f n : Nat) : heldBy vs f (n + 1) = heldBy vs f n ++ [vs[slotOf f n]?.getD 0] := by simp [heldBy, List.range_succ]
theorem heldBy_get (vs : List Int) (f n i : Nat) (h : i < n) : (heldBy vs f n)[i]?.getD 0 = vs[slotOf f i]?.getD 0 := by
  simp [heldBy, List.getElem?_map, List.getElem?_range h]

theorem slotOf_lt (f i : Nat) : slotOf f i < 32 := Nat.mod_lt _ (by omega)
theorem slotOf_ne {f i j : Nat} (hi : i < j) (hj : j < 32) : slotOf f i ≠ slotOf f j := by unfold slotOf; omega

theorem heldBy_put {vs : List Int} {f n : Nat} (hl : vs.length = 32) (hn : n < 32) (x : Int) : heldBy (vs.set (slotOf f n) x) f (n + 1) = heldBy vs f n ++ [x] := by
  rw [heldBy_succ]
  have hs := slotOf_lt f n
  congr 1
  · refine List.map_congr_left fun i hi => ?_
    have hi : i < n := List.mem_range.mp hi
    rw [List.getElem?_set_ne (slotOf_ne hi hn).symm]
  · rw [List.getElem?_set_self (by omega)]; rfl
theorem heldBy_take {vs : List Int} {f n : Nat} (hf : f < 32) (hn : n < 32) (x : Int) : heldBy vs f (n + 1) = vs[f]?.getD 0 :: heldBy (vs.set f x) (slotOf f 1) n := by
  unfold heldBy
  rw [List.range_succ_eq_map, List.map_cons, List.map_map]
  congr 1
  · rw [show slotOf f 0 = f by unfold slotOf; omega]
  · refine List.map_congr_left fun i hi => ?_
    have hi : i < n := List.mem_range.mp hi
    have h1 : slotOf (slotOf f 1) i = slotOf f (i + 1) := by unfold slotOf; omega
    have h2 : f ≠ slotOf f (i + 1) := by unfold slotOf; omega
    show vs[slotOf f (i + 1)]?.getD 0 = _
    rw [h1, List.getElem?_set_ne h2]

theorem take_snocI (xs : List Int) (k : Nat) (hk : k < xs.length) : xs.take (k + 1) = xs.take k ++ [xs[k]?.getD 0] := by
  rw [List.take_add_one, List.getElem?_eq_getElem hk]; rfl
theorem idx_first {xs : List Int} {i : Int} {k : Nat} (h1 : xs[k]? = some i) (h2 : i ∉ xs.take k) : xs.idxOf? i = some k := by
  obtain ⟨hk, he⟩ := List.getElem?_eq_some_iff.1 h1
  rw [List.idxOf?, List.findIdx?_eq_some_iff_getElem]
  refine ⟨hk, by simp [he], fun j hj => ?_⟩
  have hlt : j < xs.length := by omega
  simp only [beq_iff_eq]
  intro e
  exact h2 (by rw [← e]; exact List.mem_take_iff_getElem.2 ⟨j, by omega, rfl⟩)
/-- The place of i, or -1. -/
def atV (xs : List Int) (i : Int) : Int := match xs.idxOf? i with
  | some k => (k : Int)
  | none => -1
theorem atV_not {xs : List Int} {i : Int} (h : i ∉ xs) : atV xs i = -1 := by
  have : xs.idxOf? i = none := by simpa using h
  rw [atV, this]
theorem atV_is {xs : List Int} {i : Int} (h : i ∈ xs) : ∃ k, xs.idxOf? i = some k ∧ xs[k]? = some i ∧ atV xs i = (k : Int) ∧ k < xs.length := by
  cases e : xs.idxOf? i with
  | none => exact absurd h (by simpa using e)
  | some k =>
    rw [List.idxOf?, List.findIdx?_eq_some_iff_getElem] at e
    obtain ⟨h1, h2, h3⟩ := e
    have e2 : xs[k]? = some i := by rw [List.getElem?_eq_getElem h1]; simpa using h2
    have e3 : xs.idxOf? i = some k := by rw [List.idxOf?, List.findIdx?_eq_some_iff_getElem]; exact ⟨h1, h2, h3⟩
    refine ⟨k, rfl, e2, by rw [atV, e3], h1⟩
theorem atV_first {xs : List Int} {i : Int} {k : Nat} (h1 : xs[k]? = some i) (h2 : i ∉ xs.take k) : atV xs i = (k : Int) := by rw [atV, idx_first h1 h2]
theorem at_has (xs : List Int) (i : Int) : decide ((0 : Int) ≤ atV xs i) = decide (i ∈ xs) := by
  by_cases h : i ∈ xs
  · obtain ⟨k, _, _, hv, _⟩ := atV_is h
    rw [hv]; simp [h]
  · rw [atV_not h]; simp [h]

/-! ### Closing up -/
/-- What stands in place j while all behind place p close up, as far as i. -/
def shut (l : List Int) (p i j : Nat) : Int := if p ≤ j ∧ j + 1 < i then l[j + 1]?.getD 0 else l[j]?.getD 0
def Shut (vs l : List Int) (f p i : Nat) : Prop := vs.length = 32 ∧ ∀ j, j < l.length → vs[slotOf f j]?.getD 0 = shut l p i j
theorem Shut.start {vs l : List Int} {f p n : Nat} (hv : vs.length = 32) (hl : l = heldBy vs f n) (hn : l.length = n) : Shut vs l f p (p + 1) := by
  refine ⟨hv, fun j hj => ?_⟩
  have : ¬ (p ≤ j ∧ j + 1 < p + 1) := by omega
  rw [shut, if_neg this]
  have h := heldBy_get vs f n j (by omega)
  rw [← hl] at h
  exact h.symm
theorem Shut.get {vs l : List Int} {f p i : Nat} (h : Shut vs l f p i) (hi : i < l.length) : vs[slotOf f i]?.getD 0 = l[i]?.getD 0 := by
  rw [h.2 i hi, shut, if_neg (by omega)]
theorem Shut.step {vs l : List Int} {f p i : Nat} (h : Shut vs l f p i) (hp : p < i) (hi : i < l.length) (hl : l.length ≤ 32) : Shut (vs.set (slotOf f (i - 1)) (l[i]?.getD 0)) l f p (i + 1) := by
  have hs := slotOf_lt f (i - 1)
  refine ⟨by simp [h.1], fun j hj => ?_⟩
  by_cases e : j = i - 1
  · subst e
    rw [List.getElem?_set_self (by rw [h.1]; exact hs), shut, if_pos (by omega), Option.getD_some, show i - 1 + 1 = i by omega]
  · rw [List.getElem?_set_ne, h.2 j hj]
    · unfold shut
      by_cases c : p ≤ j ∧ j + 1 < i
      · rw [if_pos c, if_pos (by omega)]
      · rw [if_neg c, if_neg (by omega)]
    · rcases Nat.lt_or_ge j (i - 1) with h2 | h2
      · exact (slotOf_ne h2 (by omega)).symm
      · exact slotOf_ne (by omega) (by omega)
theorem Shut.done {vs l : List Int} {f p n : Nat} (h : Shut vs l f p (n + 1)) (hn : l.length = n + 1) (hp : p < l.length) (hl : l.length ≤ 32) : l.eraseIdx p = heldBy (vs.set (slotOf f n) 0) f n := by
  apply List.ext_getElem?
  intro j
  rw [List.getElem?_eraseIdx]
  by_cases hj : j < n
  · have h1 : (heldBy (vs.set (slotOf f n) 0) f n)[j]? = some ((heldBy (vs.set (slotOf f n) 0) f n)[j]?.getD 0) := by
      rw [List.getElem?_eq_getElem (by rw [heldBy_len]; exact hj)]; rfl
    rw [h1, heldBy_get _ _ _ _ hj, List.getElem?_set_ne (slotOf_ne hj (by omega)).symm, h.2 j (by omega), shut]
    by_cases c : j < p
    · rw [if_pos c, if_neg (by omega), List.getElem?_eq_getElem (by omega)]; rfl
    · rw [if_neg c, if_pos (by omega), List.getElem?_eq_getElem (by omega)]; rfl
  · have h1 : (heldBy (vs.set (slotOf f n) 0) f n)[j]? = none := List.getElem?_eq_none (by rw [heldBy_len]; omega)
    rw [h1, if_neg (by omega), List.getElem?_eq_none (by omega)]
theorem erase_at {l : List Int} {k : Int} {p : Nat} (h : l.idxOf? k = some p) : l.erase k = l.eraseIdx p := by
  rw [List.erase_eq_eraseIdx, h]
end Go.Proofs.Ytfdinodcbeipcaa
