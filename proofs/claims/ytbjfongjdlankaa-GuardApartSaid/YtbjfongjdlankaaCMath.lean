/-
  Cells in memory: a block of a row and a count, and the row's block; what a call may turn; pure.
-/
import Derived.Lib.Hide
import Derived.Test.YtbjfongjdlankaaRows
import Derived.WalkKit
import Derived.WalkLawsBesides
import Derived.WalkSpells
import Derived.Outline
import Derived.Below
import Derived.RangeFuncBox
import Derived.BigQuiet
import Derived.OwnWalk
import Derived.StillTailTactics
namespace Go.Proofs.Ytbjfongjdlankaa
open Go.RowKit

/-! ### What may have been turned: the blocks of a list, and new ones -/
structure But (S : List Nat) (w w' : World) : Prop where
  os : w'.os = w.os
  tape : w'.tape = w.tape
  output : w'.output = w.output
  size : w.heap.size ≤ w'.heap.size
  block : ∀ k, k < w.heap.size → k ∉ S → w'.heap[k]? = w.heap[k]?

theorem But.refl (S : List Nat) (w : World) : But S w w := ⟨rfl, rfl, rfl, Nat.le_refl _, fun _ _ _ => rfl⟩
theorem But.mono {S T : List Nat} {w w' : World} (h : But S w w') (hS : ∀ k ∈ S, k ∈ T) : But T w w' := ⟨h.os, h.tape, h.output, h.size, fun k hk hn => h.block k hk (fun e => hn (hS k e))⟩
theorem But.trans {S T : List Nat} {a b c : World} (h : But S a b) (k : But T b c) (hT : ∀ x ∈ T, x < a.heap.size → x ∈ S) : But S a c :=
  ⟨k.os.trans h.os, k.tape.trans h.tape, k.output.trans h.output, Nat.le_trans h.size k.size,
   fun i hi hn => (k.block i (Nat.lt_of_lt_of_le hi h.size) (fun e => hn (hT i e hi))).trans (h.block i hi hn)⟩
theorem But.next {S : List Nat} {a b c : World} (h : But S a b) (k : But S b c) : But S a c := h.trans k (fun _ h _ => h)
theorem But.of_none {w w' : World} (h : w.grownBy w' none) (S : List Nat) : But S w w' := ⟨h.os, h.tape, h.output, h.size, fun k hk _ => h.block k hk (by simp)⟩
theorem But.of_some {w w' : World} {B : Nat} (h : w.grownBy w' (some B)) {S : List Nat} (hB : B ∈ S) : But S w w' := ⟨h.os, h.tape, h.output, h.size, fun k hk hn => h.block k hk (fun e => by cases e; exact hn hB)⟩
theorem But.drewN {S : List Nat} {w w' : World} (h : But S w w') (n : Nat) : But S w (w'.drewN n) := ⟨h.os, h.tape, h.output, h.size, h.block⟩
theorem But.drew {S : List Nat} {w w' : World} (h : But S w w') : But S w w'.drew := ⟨h.os, h.tape, h.output, h.size, h.block⟩
theorem But.alloc {S : List Nat} {w w' : World} (h : But S w w') (o : Obj) : But S w (w'.alloc o) := h.trans (.of_none (World.grownBy_alloc w' o none) []) (by simp)
theorem But.set {S : List Nat} {w w' : World} (h : But S w w') {p : Addr} (hp : p.block ∈ S ∨ w.heap.size ≤ p.block) (v : Value) : But S w (w'.setCell p v) :=
  ⟨h.os, h.tape, h.output, by simpa [World.setCell] using h.size, fun k hk hn => (Below.heap_setCell w' p v k (fun e => by subst e; rcases hp with hp | hp; exact hn hp; omega)).trans (h.block k hk hn)⟩
theorem But.cell {S : List Nat} {w w' : World} (h : But S w w') {p : Addr} {v : Value} (hv : w.cell? p = some v) (hn : p.block ∉ S) : w'.cell? p = some v :=
  (World.cell?_of_block (w := w) (h.block p.block (World.block_lt_of_cell? w p hv) hn)).trans hv
theorem But.frozen {S : List Nat} {w w' : World} (h : But S w w') {p : Addr} {b : Bool} (hv : w.frozen? p = b) (hl : p.block < w.heap.size) (hn : p.block ∉ S) : w'.frozen? p = b :=
  (World.frozen?_of_block (w := w) (h.block p.block hl hn)).trans hv
theorem But.boxed {S : List Nat} {w w' : World} (h : But S w w') {B : Nat} {t : TypeId} {v : Value} (hb : Boxed w B t v) (hn : B ∉ S) : Boxed w' B t v := (h.block B hb.lt hn).trans hb
theorem But.below {S : List Nat} {w w' : World} (h : But S w w') {n : Nat} (hn : n ≤ w.heap.size) (hS : ∀ k ∈ S, n ≤ k) : Below n w w' :=
  ⟨h.os, h.tape, h.output, h.size, fun k hk => h.block k (Nat.lt_of_lt_of_le hk hn) (fun e => Nat.lt_irrefl _ (Nat.lt_of_lt_of_le hk (hS k e)))⟩
theorem But.of_below {w w' : World} (h : Below w.heap.size w w') (S : List Nat) : But S w w' := ⟨h.os, h.tape, h.output, h.size, fun k hk _ => h.block k hk⟩
theorem But.row {S : List Nat} {w w' : World} (h : But S w w') {base : Nat} {e : TypeId} {size : Nat} {v : Value} {n : Nat} {xs : List Value} (hr : w.ownsRow base e size v n xs) (hn : ∀ g, v.ownBlock = some g → g ∉ S) : w'.ownsRow base e size v n xs := by
  refine ⟨hr.1, ?_⟩
  rcases hr.2 with h0 | ⟨g, cap, cur, rfl, hg, hb, r⟩
  · exact .inl h0
  · exact .inr ⟨g, cap, cur, rfl, hg, (h.block g (Array.getElem?_eq_some_iff.1 hb).1 (hn g rfl)).trans hb, r⟩

/-! ### Cells -/
def U64 (xs : List Nat) : List Value := xs.map fun (x : Nat) => Value.int .u64 (x : Int)
theorem U64_len (xs : List Nat) : (U64 xs).length = xs.length := by simp [U64]

/-- The number in place k. -/
def nth (vs : List Nat) (k : Nat) : Nat := vs[k]?.getD 0

/-- Block B is cells with these numbers, in block V, and that count. -/
structure Cels (W : World) (B V : Nat) (vs : List Nat) (n : Nat) : Prop where
  head : W.heap[B]? = some (.cells #[.slice (some ⟨V, 0, none⟩) vs.length vs.length, .int .u64 (n : Int)] 85 (0, 0))
  row : W.heap[V]? = some (.cells (U64 vs).toArray 33 (0, 0))
  all : ∀ x ∈ vs, x < 18446744073709551616
  cnt : n < 18446744073709551616
  len : vs.length ≤ 4096

theorem Cels.ne {W : World} {B V : Nat} {vs : List Nat} {n : Nat} (h : Cels W B V vs n) : B ≠ V := by
  rintro rfl
  have := h.head.symm.trans h.row
  simp at this
theorem Cels.ltB {W : World} {B V : Nat} {vs : List Nat} {n : Nat} (h : Cels W B V vs n) : B < W.heap.size := (Array.getElem?_eq_some_iff.1 h.head).1
theorem Cels.ltV {W : World} {B V : Nat} {vs : List Nat} {n : Nat} (h : Cels W B V vs n) : V < W.heap.size := (Array.getElem?_eq_some_iff.1 h.row).1
theorem Cels.cellS {W : World} {B V : Nat} {vs : List Nat} {n : Nat} (h : Cels W B V vs n) : W.cell? ⟨B, 0, none⟩ = some (.slice (some ⟨V, 0, none⟩) vs.length vs.length) := by simp [World.cell?, h.head]
theorem Cels.cellN {W : World} {B V : Nat} {vs : List Nat} {n : Nat} (h : Cels W B V vs n) : W.cell? ⟨B, 1, none⟩ = some (.int .u64 (n : Int)) := by simp [World.cell?, h.head]
theorem Cels.frozenB {W : World} {B V : Nat} {vs : List Nat} {n : Nat} (h : Cels W B V vs n) (k : Nat) : W.frozen? ⟨B, k, none⟩ = false := by simp [World.frozen?, h.head]
theorem Cels.frozenV {W : World} {B V : Nat} {vs : List Nat} {n : Nat} (h : Cels W B V vs n) (k : Nat) : W.frozen? ⟨V, k, none⟩ = false := by simp [World.frozen?, h.row]
theorem Cels.cellV {W : World} {B V : Nat} {vs : List Nat} {n : Nat} (h : Cels W B V vs n) {k : Nat} (hk : k < vs.length) : W.cell? ⟨V, k, none⟩ = some (.int .u64 (nth vs k : Int)) := by
  simp [World.cell?, h.row, U64, List.getElem?_map, List.getElem?_eq_getElem hk, nth]
theorem Cels.of_blocks {W W' : World} {B V : Nat} {vs : List Nat} {n : Nat} (h : Cels W B V vs n) (h1 : W'.heap[B]? = W.heap[B]?) (h2 : W'.heap[V]? = W.heap[V]?) : Cels W' B V vs n := ⟨h1.trans h.head, h2.trans h.row, h.all, h.cnt, h.len⟩
theorem Cels.but {W W' : World} {B V : Nat} {vs : List Nat} {n : Nat} (h : Cels W B V vs n) {S : List Nat} (hb : But S W W') (h1 : B ∉ S) (h2 : V ∉ S) : Cels W' B V vs n := h.of_blocks (hb.block B h.ltB h1) (hb.block V h.ltV h2)
theorem Cels.drewN {W : World} {B V : Nat} {vs : List Nat} {n : Nat} (h : Cels W B V vs n) (k : Nat) : Cels (W.drewN k) B V vs n := ⟨h.head, h.row, h.all, h.cnt, h.len⟩
theorem Cels.drew {W : World} {B V : Nat} {vs : List Nat} {n : Nat} (h : Cels W B V vs n) : Cels W.drew B V vs n := ⟨h.head, h.row, h.all, h.cnt, h.len⟩

theorem heap_set_same {W : World} {B k : Nat} {cs : Array Value} {t : TypeId} {z : Nat × Nat} (v : Value) (h : W.heap[B]? = some (.cells cs t z)) : (W.setCell ⟨B, k, none⟩ v).heap[B]? = some (.cells (cs.setIfInBounds k v) t z) := by
  obtain ⟨hlt, hk⟩ := Array.getElem?_eq_some_iff.1 h
  show (W.heap.modify B _)[B]? = _
  rw [Array.getElem?_eq_getElem (by rw [Array.size_modify]; exact hlt), Array.getElem_modify_self, hk]
  rfl
theorem Cels.setN {W : World} {B V : Nat} {vs : List Nat} {n : Nat} (h : Cels W B V vs n) {m : Nat} {x : Int} (hx : x = (m : Int)) (hm : m < 18446744073709551616) : Cels (W.setCell ⟨B, 1, none⟩ (.int .u64 x)) B V vs m := by
  subst hx
  exact ⟨heap_set_same _ h.head, (Below.heap_setCell W _ _ V h.ne.symm).trans h.row, h.all, hm, h.len⟩
theorem mem_set {vs : List Nat} {k m x : Nat} (h : ∀ x ∈ vs, x < 18446744073709551616) (hm : m < 18446744073709551616) (hx : x ∈ vs.set k m) : x < 18446744073709551616 := by
  rcases List.mem_or_eq_of_mem_set hx with h1 | rfl
  · exact h x h1
  · exact hm
theorem Cels.setV {W : World} {B V : Nat} {vs : List Nat} {n : Nat} (h : Cels W B V vs n) (k : Nat) {m : Nat} {x : Int} (hx : x = (m : Int)) (hm : m < 18446744073709551616) : Cels (W.setCell ⟨V, k, none⟩ (.int .u64 x)) B V (vs.set k m) n := by
  subst hx
  refine ⟨(Below.heap_setCell W _ _ B h.ne).trans (by rw [List.length_set]; exact h.head), (heap_set_same _ h.row).trans ?_, fun x hx => mem_set h.all hm hx, h.cnt, by rw [List.length_set]; exact h.len⟩
  rw [List.setIfInBounds_toArray, U64, U64, List.map_set]

/-! ### What is answered -/
/-- Sums around the end of 64 bits. -/
def plus (x y : Nat) : Nat := (x + y) % 18446744073709551616
def up (x : Nat) : Nat := (x + 1) % 18446744073709551616
theorem plus_lt (x y : Nat) : plus x y < 18446744073709551616 := Nat.mod_lt _ (by omega)
theorem up_lt (x : Nat) : up x < 18446744073709551616 := Nat.mod_lt _ (by omega)

/-- Is there a cell i of so many? -/
def inRow (len : Nat) (i : Int) : Bool := decide (0 ≤ i ∧ i < (len : Int))
def cellAt (vs : List Nat) (i : Int) : Nat := if inRow vs.length i then nth vs i.toNat else 0
def countUp (len n : Nat) (i : Int) : Nat := if inRow len i then up n else n
def putAt (vs : List Nat) (i : Int) (v : Nat) : List Nat := if inRow vs.length i then vs.set i.toNat v else vs
def addAt (vs : List Nat) (i : Int) (v : Nat) : List Nat := putAt vs i (plus (cellAt vs i) v)

theorem putAt_len (vs : List Nat) (i : Int) (v : Nat) : (putAt vs i v).length = vs.length := by unfold putAt; split <;> simp
theorem addAt_len (vs : List Nat) (i : Int) (v : Nat) : (addAt vs i v).length = vs.length := putAt_len _ _ _
theorem nth_lt {vs : List Nat} (h : ∀ x ∈ vs, x < 18446744073709551616) (k : Nat) : nth vs k < 18446744073709551616 := by
  unfold nth
  cases hg : vs[k]? with
  | none => simp
  | some x => simpa using h x (List.mem_of_getElem? hg)
theorem cellAt_lt {vs : List Nat} (h : ∀ x ∈ vs, x < 18446744073709551616) (i : Int) : cellAt vs i < 18446744073709551616 := by
  unfold cellAt
  split
  · exact nth_lt h _
  · omega
end Go.Proofs.Ytbjfongjdlankaa
