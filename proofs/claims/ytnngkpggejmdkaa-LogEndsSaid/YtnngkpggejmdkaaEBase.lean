/-
  What the walks lean on: the library's variables, and its functions at base 10; what may have been turned: blocks of a list, new ones.
-/
import Derived.Test.YtnngkpggejmdkaaEPure
import Derived.WalkKit
import Derived.WalkLawsBesides
import Derived.WalkSpells
import Derived.Outline
import Derived.Below
import Derived.RangeFuncBox
import Derived.BigQuiet
import Derived.OwnWalk
import Derived.StillTailTactics
import Derived.Laws.StructEq
import Derived.Lib.SliceRun
import Derived.Lib.SmallJoins
import Derived.Maps.OwnSet
import Derived.Maps.OwnOps
namespace Go.Proofs.Ytnngkpggejmdkaa
open Go.RowKit

theorem below_drewN {n : Nat} {w w1 : World} (h : Below n w w1) (q : Nat) : Below n w (w1.drewN q) := ⟨h.os, h.tape, h.output, h.size, h.block⟩
theorem ret_v {a b : Value} (h : a = b) : Ending.returned a = .returned b := by rw [h]

theorem size_l (l : List UInt8) : (⟨l.toArray⟩ : ByteArray).size = l.length := rfl
theorem data_l (l : List UInt8) : (⟨l.toArray⟩ : ByteArray).data.toList = l := rfl

/-! ### What may have been turned: the blocks of a list, and new ones -/
structure But (S : List Nat) (w w' : World) : Prop where
  os : w'.os = w.os
  tape : w'.tape = w.tape
  output : w'.output = w.output
  size : w.heap.size ≤ w'.heap.size
  block : ∀ k, k < w.heap.size → k ∉ S → w'.heap[k]? = w.heap[k]?

theorem But.refl (S : List Nat) (w : World) : But S w w := ⟨rfl, rfl, rfl, Nat.le_refl _, fun _ _ _ => rfl⟩
theorem But.mono {S T : List Nat} {w w' : World} (h : But S w w') (hS : ∀ k ∈ S, k ∈ T) : But T w w' := ⟨h.os, h.tape, h.output, h.size, fun k hk hn => h.block k hk (fun e => hn (hS k e))⟩
theorem But.trans {S T : List Nat} {a b c : World} (h : But S a b) (k : But T b c) (hT : ∀ x ∈ T, x < a.heap.size → x ∈ S) : But S a c :=
  ⟨k.os.trans h.os, k.tape.trans h.tape, k.output.trans h.output, Nat.le_trans h.size k.size,
   fun i hi hn => (k.block i (Nat.lt_of_lt_of_le hi h.size) (fun e => hn (hT i e hi))).trans (h.block i hi hn)⟩
theorem But.next {S : List Nat} {a b c : World} (h : But S a b) (k : But S b c) : But S a c := h.trans k (fun _ h _ => h)
theorem But.own {S T : List Nat} {a b c : World} (h : But S a b) (k : But T b c) (hT : ∀ x ∈ T, a.heap.size ≤ x) : But S a c := h.trans k (fun x hx h0 => by have := hT x hx; omega)
theorem But.of_none {w w' : World} (h : w.grownBy w' none) (S : List Nat) : But S w w' := ⟨h.os, h.tape, h.output, h.size, fun k hk _ => h.block k hk (by simp)⟩
theorem But.of_some {w w' : World} {B : Nat} (h : w.grownBy w' (some B)) {S : List Nat} (hB : B ∈ S) : But S w w' := ⟨h.os, h.tape, h.output, h.size, fun k hk hn => h.block k hk (fun e => by cases e; exact hn hB)⟩
theorem But.drewN {S : List Nat} {w w' : World} (h : But S w w') (n : Nat) : But S w (w'.drewN n) := ⟨h.os, h.tape, h.output, h.size, h.block⟩
theorem But.drew {S : List Nat} {w w' : World} (h : But S w w') : But S w w'.drew := ⟨h.os, h.tape, h.output, h.size, h.block⟩
theorem But.alloc {S : List Nat} {w w' : World} (h : But S w w') (o : Obj) : But S w (w'.alloc o) := h.trans (.of_none (World.grownBy_alloc w' o none) []) (by simp)
theorem But.set {S : List Nat} {w w' : World} (h : But S w w') {p : Addr} (hp : p.block ∈ S ∨ w.heap.size ≤ p.block) (v : Value) : But S w (w'.setCell p v) :=
  ⟨h.os, h.tape, h.output, by simpa [World.setCell] using h.size, fun k hk hn => (Below.heap_setCell w' p v k (fun e => by subst e; rcases hp with hp | hp; exact hn hp; omega)).trans (h.block k hk hn)⟩
theorem But.cell {S : List Nat} {w w' : World} (h : But S w w') {p : Addr} {v : Value} (hv : w.cell? p = some v) (hn : p.block ∉ S) : w'.cell? p = some v :=
  (World.cell?_of_block (w := w) (h.block p.block (World.block_lt_of_cell? w p hv) hn)).trans hv
theorem But.frozen {S : List Nat} {w w' : World} (h : But S w w') {p : Addr} {b : Bool} (hv : w.frozen? p = b) (hl : p.block < w.heap.size) (hn : p.block ∉ S) : w'.frozen? p = b :=
  (World.frozen?_of_block (w := w) (h.block p.block hl hn)).trans hv
theorem But.boxed {S : List Nat} {w w' : World} (h : But S w w') {B : Nat} {t : TypeId} {v : Value} (hb : Boxed w B t v) (hn : B ∉ S) : Boxed w' B t v := (h.block B hb.lt hn).trans hb
theorem But.below {S : List Nat} {w w' : World} (h : But S w w') {n : Nat} (hn : n ≤ w.heap.size) (hS : ∀ k ∈ S, n ≤ k) : Below n w w' :=
  ⟨h.os, h.tape, h.output, h.size, fun k hk => h.block k (Nat.lt_of_lt_of_le hk hn) (fun e => Nat.lt_irrefl _ (Nat.lt_of_lt_of_le hk (hS k e)))⟩
theorem But.of_below {w w' : World} (h : Below w.heap.size w w') (S : List Nat) : But S w w' := ⟨h.os, h.tape, h.output, h.size, fun k hk _ => h.block k hk⟩
theorem But.row {S : List Nat} {w w' : World} (h : But S w w') {base : Nat} {e : TypeId} {size : Nat} {v : Value} {n : Nat} {xs : List Value} (hr : w.ownsRow base e size v n xs) (hn : ∀ g, v.ownBlock = some g → g ∉ S) : w'.ownsRow base e size v n xs := by
  refine ⟨hr.1, ?_⟩
  rcases hr.2 with h0 | ⟨g, cap, cur, rfl, hg, hb, r⟩
  · exact .inl h0
  · exact .inr ⟨g, cap, cur, rfl, hg, (h.block g (Array.getElem?_eq_some_iff.1 hb).1 (hn g rfl)).trans hb, r⟩

theorem heap_set_same {W : World} {B k : Nat} {cs : Array Value} {t : TypeId} {z : Nat × Nat} (v : Value) (h : W.heap[B]? = some (.cells cs t z)) : (W.setCell ⟨B, k, none⟩ v).heap[B]? = some (.cells (cs.setIfInBounds k v) t z) := by
  obtain ⟨hlt, hk⟩ := Array.getElem?_eq_some_iff.1 h
  show (W.heap.modify B _)[B]? = _
  rw [Array.getElem?_eq_getElem (by rw [Array.size_modify]; exact hlt), Array.getElem_modify_self, hk]
  rfl
/-- Block B is a variable of two cells. -/
def Two (W : World) (B : Nat) (t : TypeId) (x y : Value) : Prop := W.heap[B]? = some (.cells #[x, y] t (0, 0))
section
variable {W W' : World} {B : Nat} {t : TypeId} {x y : Value}
theorem Two.lt (h : Two W B t x y) : B < W.heap.size := (Array.getElem?_eq_some_iff.1 h).1
theorem Two.c0 (h : Two W B t x y) : W.cell? ⟨B, 0, none⟩ = some x := by simp [World.cell?, show W.heap[B]? = _ from h]
theorem Two.c1 (h : Two W B t x y) : W.cell? ⟨B, 1, none⟩ = some y := by simp [World.cell?, show W.heap[B]? = _ from h]
theorem Two.frozen (h : Two W B t x y) (k : Nat) : W.frozen? ⟨B, k, none⟩ = false := by simp [World.frozen?, show W.heap[B]? = _ from h]
theorem Two.of_block (h : Two W B t x y) (hb : W'.heap[B]? = W.heap[B]?) : Two W' B t x y := hb.trans h
theorem Two.alloc (h : Two W B t x y) (o : Obj) : Two (W.alloc o) B t x y := h.of_block ((World.grownBy_alloc W o none).block B h.lt (by simp))
theorem Two.set (h : Two W B t x y) (a b : Value) : Two ((W.setCell ⟨B, 0, none⟩ a).setCell ⟨B, 1, none⟩ b) B t a b := by
  have h1 := heap_set_same (k := 0) a h
  have h2 := heap_set_same (k := 1) b h1
  simpa [Two] using h2
theorem two_new (W : World) (t : TypeId) (x y : Value) : Two (W.alloc (.cells #[x, y] t)) W.heap.size t x y := World.alloc_heap_new W _
end
/-! ### An entry in memory -/
def En.val (x : En) : Value := .agg #[.int .i64 x.a, .int .u8 (x.k : Int), .int .i64 x.w, .int .i64 x.t, .int .i64 x.p, .int .i64 x.c, .int .i64 x.b, .int .i64 x.q, .int .i64 x.v, .int .i64 x.u, .bool x.o, .int .i64 x.e, .int .u64 (x.s : Int)]
/-- Block B is the entry x. -/
def EnAt (W : World) (B : Nat) (x : En) : Prop := W.heap[B]? = some (.cells #[.int .i64 x.a, .int .u8 (x.k : Int), .int .i64 x.w, .int .i64 x.t, .int .i64 x.p, .int .i64 x.c, .int .i64 x.b, .int .i64 x.q, .int .i64 x.v, .int .i64 x.u, .bool x.o, .int .i64 x.e, .int .u64 (x.s : Int)] 31 (0, 0))
section
variable {W W' : World} {B : Nat} {x : En}
theorem EnAt.lt (h : EnAt W B x) : B < W.heap.size := (Array.getElem?_eq_some_iff.1 h).1
theorem EnAt.of_block (h : EnAt W B x) (hb : W'.heap[B]? = W.heap[B]?) : EnAt W' B x := hb.trans h
theorem EnAt.c0 (h : EnAt W B x) : W.cell? ⟨B, 0, none⟩ = some (.int .i64 x.a) := by simp [World.cell?, show W.heap[B]? = _ from h]
theorem EnAt.c1 (h : EnAt W B x) : W.cell? ⟨B, 1, none⟩ = some (.int .u8 (x.k : Int)) := by simp [World.cell?, show W.heap[B]? = _ from h]
theorem EnAt.c2 (h : EnAt W B x) : W.cell? ⟨B, 2, none⟩ = some (.int .i64 x.w) := by simp [World.cell?, show W.heap[B]? = _ from h]
theorem EnAt.c3 (h : EnAt W B x) : W.cell? ⟨B, 3, none⟩ = some (.int .i64 x.t) := by simp [World.cell?, show W.heap[B]? = _ from h]
theorem EnAt.c4 (h : EnAt W B x) : W.cell? ⟨B, 4, none⟩ = some (.int .i64 x.p) := by simp [World.cell?, show W.heap[B]? = _ from h]
theorem EnAt.c5 (h : EnAt W B x) : W.cell? ⟨B, 5, none⟩ = some (.int .i64 x.c) := by simp [World.cell?, show W.heap[B]? = _ from h]
theorem EnAt.c6 (h : EnAt W B x) : W.cell? ⟨B, 6, none⟩ = some (.int .i64 x.b) := by simp [World.cell?, show W.heap[B]? = _ from h]
theorem EnAt.c7 (h : EnAt W B x) : W.cell? ⟨B, 7, none⟩ = some (.int .i64 x.q) := by simp [World.cell?, show W.heap[B]? = _ from h]
theorem EnAt.c8 (h : EnAt W B x) : W.cell? ⟨B, 8, none⟩ = some (.int .i64 x.v) := by simp [World.cell?, show W.heap[B]? = _ from h]
theorem EnAt.c9 (h : EnAt W B x) : W.cell? ⟨B, 9, none⟩ = some (.int .i64 x.u) := by simp [World.cell?, show W.heap[B]? = _ from h]
theorem EnAt.c10 (h : EnAt W B x) : W.cell? ⟨B, 10, none⟩ = some (.bool x.o) := by simp [World.cell?, show W.heap[B]? = _ from h]
theorem EnAt.c11 (h : EnAt W B x) : W.cell? ⟨B, 11, none⟩ = some (.int .i64 x.e) := by simp [World.cell?, show W.heap[B]? = _ from h]
theorem EnAt.c12 (h : EnAt W B x) : W.cell? ⟨B, 12, none⟩ = some (.int .u64 (x.s : Int)) := by simp [World.cell?, show W.heap[B]? = _ from h]
theorem EnAt.frozen (h : EnAt W B x) (k : Nat) : W.frozen? ⟨B, k, none⟩ = false := by simp [World.frozen?, show W.heap[B]? = _ from h]
theorem enAt_new (W : World) (x : En) : EnAt (W.alloc (.cells #[.int .i64 x.a, .int .u8 (x.k : Int), .int .i64 x.w, .int .i64 x.t, .int .i64 x.p, .int .i64 x.c, .int .i64 x.b, .int .i64 x.q, .int .i64 x.v, .int .i64 x.u, .bool x.o, .int .i64 x.e, .int .u64 (x.s : Int)] 31)) W.heap.size x := World.alloc_heap_new W _
theorem EnAt.alloc (h : EnAt W B x) (o : Obj) : EnAt (W.alloc o) B x := h.of_block ((World.grownBy_alloc W o none).block B h.lt (by simp))
theorem EnAt.but (h : EnAt W B x) {S : List Nat} (hb : But S W W') (hn : B ∉ S) : EnAt W' B x := h.of_block (hb.block B h.lt hn)
end
/-- A whole entry that is stored. -/
def put13 (W : World) (B : Nat) (z : En) : World := ((((((((((((W.setCell ⟨B, 0, none⟩ (.int .i64 z.a)).setCell ⟨B, 1, none⟩ (.int .u8 (z.k : Int))).setCell ⟨B, 2, none⟩ (.int .i64 z.w)).setCell ⟨B, 3, none⟩ (.int .i64 z.t)).setCell ⟨B, 4, none⟩ (.int .i64 z.p)).setCell ⟨B, 5, none⟩ (.int .i64 z.c)).setCell ⟨B, 6, none⟩ (.int .i64 z.b)).setCell ⟨B, 7, none⟩ (.int .i64 z.q)).setCell ⟨B, 8, none⟩ (.int .i64 z.v)).setCell ⟨B, 9, none⟩ (.int .i64 z.u)).setCell ⟨B, 10, none⟩ (.bool z.o)).setCell ⟨B, 11, none⟩ (.int .i64 z.e)).setCell ⟨B, 12, none⟩ (.int .u64 (z.s : Int))
theorem but_put13 (W : World) (B : Nat) (z : En) : But [B] W (put13 W B z) := by
  unfold put13
  exact (((((((((((((But.refl [B] W).set (p := ⟨B, 0, none⟩) (.inl (by simp)) _).set (p := ⟨B, 1, none⟩) (.inl (by simp)) _).set (p := ⟨B, 2, none⟩) (.inl (by simp)) _).set (p := ⟨B, 3, none⟩) (.inl (by simp)) _).set (p := ⟨B, 4, none⟩) (.inl (by simp)) _).set (p := ⟨B, 5, none⟩) (.inl (by simp)) _).set (p := ⟨B, 6, none⟩) (.inl (by simp)) _).set (p := ⟨B, 7, none⟩) (.inl (by simp)) _).set (p := ⟨B, 8, none⟩) (.inl (by simp)) _).set (p := ⟨B, 9, none⟩) (.inl (by simp)) _).set (p := ⟨B, 10, none⟩) (.inl (by simp)) _).set (p := ⟨B, 11, none⟩) (.inl (by simp)) _).set (p := ⟨B, 12, none⟩) (.inl (by simp)) _
theorem EnAt.put13 {W : World} {B : Nat} {x : En} (h : EnAt W B x) (z : En) : EnAt (put13 W B z) B z := by
  have h0 := heap_set_same (k := 0) (.int .i64 z.a) h
  have h1 := heap_set_same (k := 1) (.int .u8 (z.k : Int)) h0
  have h2 := heap_set_same (k := 2) (.int .i64 z.w) h1
  have h3 := heap_set_same (k := 3) (.int .i64 z.t) h2
  have h4 := heap_set_same (k := 4) (.int .i64 z.p) h3
  have h5 := heap_set_same (k := 5) (.int .i64 z.c) h4
  have h6 := heap_set_same (k := 6) (.int .i64 z.b) h5
  have h7 := heap_set_same (k := 7) (.int .i64 z.q) h6
  have h8 := heap_set_same (k := 8) (.int .i64 z.v) h7
  have h9 := heap_set_same (k := 9) (.int .i64 z.u) h8
  have h10 := heap_set_same (k := 10) (.bool z.o) h9
  have h11 := heap_set_same (k := 11) (.int .i64 z.e) h10
  have h12 := heap_set_same (k := 12) (.int .u64 (z.s : Int)) h11
  simpa [EnAt, Ytnngkpggejmdkaa.put13] using h12
end Go.Proofs.Ytnngkpggejmdkaa
