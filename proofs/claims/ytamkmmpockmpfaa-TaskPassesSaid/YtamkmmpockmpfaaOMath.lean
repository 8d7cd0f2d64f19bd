/-
  Orders: their cells in memory, what they hold in order, what is answered; sets of numbers as bits; pure.
-/
import Derived.Lib.Hide
import Derived.Test.YtamkmmpockmpfaaRows
import Derived.WalkKit
import Derived.WalkLawsBesides
import Derived.WalkSpells
import Derived.WalkArith
import Derived.Outline
import Derived.Below
import Derived.RangeFuncBox
import Derived.BigQuiet
import Derived.OwnWalk
import Derived.StillTailTactics
import Derived.Maps.AppendAt
import Derived.Laws.ShiftsVarLaws
namespace Go.Proofs.Ytamkmmpockmpfaa.Od
open Go.RowKit

/-! ### What may have been turned: the blocks of a list, and new ones -/
structure But (S : List Nat) (w w' : World) : Prop where
  os : w'.os = w.os
  tape : w'.tape = w.tape
  output : w'.output = w.output
  size : w.heap.size ≤ w'.heap.size
  block : ∀ k, k < w.heap.size → k ∉ S → w'.heap[k]? = w.heap[k]?

theorem But.refl (S : List Nat) (w : World) : But S w w := ⟨rfl, rfl, rfl, Nat.le_refl _, fun _ _ _ => rfl⟩
theorem But.mono {S T : List Nat} {w w' : World} (h : But S w w') (hS : ∀ k ∈ S, k ∈ T) : But T w w' := ⟨h.os, h.tape, h.output, h.size, fun k hk hn => h.block k hk (fun e => hn (hS k e))⟩
theorem But.trans {S T : List Nat} {a b c : World} (h : But S a b) (k : But T b c) (hT : ∀ x ∈ T, x < a.heap.size → x ∈ S) : But S a c :=
  ⟨k.os.trans h.os, k.tape.trans h.tape, k.output.trans h.output, Nat.le_trans h.size k.size,
   fun i hi hn => (k.block i (Nat.lt_of_lt_of_le hi h.size) (fun e => hn (hT i e hi))).trans (h.block i hi hn)⟩
theorem But.next {S : List Nat} {a b c : World} (h : But S a b) (k : But S b c) : But S a c := h.trans k (fun _ h _ => h)
theorem But.own {S T : List Nat} {a b c : World} (h : But S a b) (k : But T b c) (hT : ∀ x ∈ T, a.heap.size ≤ x) : But S a c := h.trans k (fun x hx h0 => by have := hT x hx; omega)
theorem But.of_none {w w' : World} (h : w.grownBy w' none) (S : List Nat) : But S w w' := ⟨h.os, h.tape, h.output, h.size, fun k hk _ => h.block k hk (by simp)⟩
theorem But.of_some {w w' : World} {B : Nat} (h : w.grownBy w' (some B)) {S : List Nat} (hB : B ∈ S) : But S w w' := ⟨h.os, h.tape, h.output, h.size, fun k hk hn => h.block k hk (fun e => by cases e; exact hn hB)⟩
theorem But.drewN {S : List Nat} {w w' : World} (h : But S w w') (n : Nat) : But S w (w'.drewN n) := ⟨h.os, h.tape, h.output, h.size, h.block⟩
theorem But.drew {S : List Nat} {w w' : World} (h : But S w w') : But S w w'.drew := ⟨h.os, h.tape, h.output, h.size, h.block⟩
theorem But.alloc {S : List Nat} {w w' : World} (h : But S w w') (o : Obj) : But S w (w'.alloc o) := h.trans (.of_none (World.grownBy_alloc w' o none) []) (by simp)
theorem But.set {S : List Nat} {w w' : World} (h : But S w w') {p : Addr} (hp : p.block ∈ S ∨ w.heap.size ≤ p.block) (v : Value) : But S w (w'.setCell p v) :=
  ⟨h.os, h.tape, h.output, by simpa [World.setCell] using h.size, fun k hk hn => (Below.heap_setCell w' p v k (fun e => by subst e; rcases hp with hp | hp; exact hn hp; omega)).trans (h.block k hk hn)⟩
theorem But.cell {S : List Nat} {w w' : World} (h : But S w w') {p : Addr} {v : Value} (hv : w.cell? p = some v) (hn : p.block ∉ S) : w'.cell? p = some v :=
  (World.cell?_of_block (w := w) (h.block p.block (World.block_lt_of_cell? w p hv) hn)).trans hv
theorem But.frozen {S : List Nat} {w w' : World} (h : But S w w') {p : Addr} {b : Bool} (hv : w.frozen? p = b) (hl : p.block < w.heap.size) (hn : p.block ∉ S) : w'.frozen? p = b :=
  (World.frozen?_of_block (w := w) (h.block p.block hl hn)).trans hv
theorem But.boxed {S : List Nat} {w w' : World} (h : But S w w') {B : Nat} {t : TypeId} {v : Value} (hb : Boxed w B t v) (hn : B ∉ S) : Boxed w' B t v := (h.block B hb.lt hn).trans hb
theorem But.below {S : List Nat} {w w' : World} (h : But S w w') {n : Nat} (hn : n ≤ w.heap.size) (hS : ∀ k ∈ S, n ≤ k) : Below n w w' :=
  ⟨h.os, h.tape, h.output, h.size, fun k hk => h.block k (Nat.lt_of_lt_of_le hk hn) (fun e => Nat.lt_irrefl _ (Nat.lt_of_lt_of_le hk (hS k e)))⟩
theorem But.of_below {w w' : World} (h : Below w.heap.size w w') (S : List Nat) : But S w w' := ⟨h.os, h.tape, h.output, h.size, fun k hk _ => h.block k hk⟩
theorem But.row {S : List Nat} {w w' : World} (h : But S w w') {base : Nat} {e : TypeId} {size : Nat} {v : Value} {n : Nat} {xs : List Value} (hr : w.ownsRow base e size v n xs) (hn : ∀ g, v.ownBlock = some g → g ∉ S) : w'.ownsRow base e size v n xs := by
  refine ⟨hr.1, ?_⟩
  rcases hr.2 with h0 | ⟨g, cap, cur, rfl, hg, hb, r⟩
  · exact .inl h0
  · exact .inr ⟨g, cap, cur, rfl, hg, (h.block g (Array.getElem?_eq_some_iff.1 hb).1 (hn g rfl)).trans hb, r⟩
theorem type_ne {W : World} {A B : Nat} {cs ds : Array Value} {t u : TypeId} {z y : Nat × Nat} (h : W.heap[A]? = some (.cells cs t z)) (k : W.heap[B]? = some (.cells ds u y)) (hne : t ≠ u) : A ≠ B := by
  rintro rfl
  have := h.symm.trans k
  simp only [Option.some.injEq, Obj.cells.injEq] at this
  exact hne this.2.1
theorem heap_set_same {W : World} {B k : Nat} {cs : Array Value} {t : TypeId} {z : Nat × Nat} (v : Value) (h : W.heap[B]? = some (.cells cs t z)) : (W.setCell ⟨B, k, none⟩ v).heap[B]? = some (.cells (cs.setIfInBounds k v) t z) := by
  obtain ⟨hlt, hk⟩ := Array.getElem?_eq_some_iff.1 h
  show (W.heap.modify B _)[B]? = _
  rw [Array.getElem?_eq_getElem (by rw [Array.size_modify]; exact hlt), Array.getElem_modify_self, hk]
  rfl


/-! ### Cells -/
def I64 (xs : List Int) : List Value := xs.map (Value.int .i64)

theorem I64_len (xs : List Int) : (I64 xs).length = xs.length := by simp [I64]

/-- Block B is an order's: 6 places, and how many of them. -/
def RawO (W : World) (B : Nat) (vs : List Int) (n : Nat) : Prop :=
  vs.length = 6 ∧ W.heap[B]? = some (.cells (I64 vs ++ [Value.int .i64 (n : Int)]).toArray 110 (0, 0))

/-- The numbers from 0 to n less 1, each once. -/
structure Perm (n : Nat) (l : List Int) : Prop where
  len : l.length = n
  nd : l.Nodup
  mem : ∀ x : Int, x ∈ l ↔ 0 ≤ x ∧ x < (n : Int)

/-- Block B is an order of n, whose row is l. -/
structure Ord (W : World) (B n : Nat) (l : List Int) : Prop where
  raw : ∃ vs, RawO W B vs n ∧ l = vs.take n
  pos : 1 ≤ n
  le : n ≤ 6
  perm : Perm n l

theorem RawO.lt {W : World} {B n : Nat} {vs : List Int} (h : RawO W B vs n) : B < W.heap.size := (Array.getElem?_eq_some_iff.1 h.2).1
theorem Ord.lt {W : World} {B n : Nat} {l : List Int} (h : Ord W B n l) : B < W.heap.size := by obtain ⟨_, h, _⟩ := h.raw; exact h.lt
theorem Ord.len {W : World} {B n : Nat} {l : List Int} (h : Ord W B n l) : l.length = n := h.perm.len
theorem Ord.rng {W : World} {B n : Nat} {l : List Int} (h : Ord W B n l) {x : Int} (hx : x ∈ l) : 0 ≤ x ∧ x < 6 := by
  have := (h.perm.mem x).1 hx; have := h.le; omega

theorem RawO.cellAt {W : World} {B n : Nat} {vs : List Int} (h : RawO W B vs n) (k : Nat) : W.cell? ⟨B, k, none⟩ = (I64 vs ++ [Value.int .i64 (n : Int)])[k]? := by
  simp [World.cell?, h.2]
theorem RawO.cellV {W : World} {B n : Nat} {vs : List Int} (h : RawO W B vs n) {k : Nat} (hk : k < 6) : W.cell? ⟨B, k, none⟩ = some (.int .i64 (vs[k]?.getD 0)) := by
  have hl := h.1
  rw [h.cellAt, List.getElem?_append_left (by rw [I64_len]; omega), I64, List.getElem?_map, List.getElem?_eq_getElem (by omega)]; rfl
theorem RawO.cellN {W : World} {B n : Nat} {vs : List Int} (h : RawO W B vs n) : W.cell? ⟨B, 6, none⟩ = some (.int .i64 (n : Int)) := by
  rw [h.cellAt, List.getElem?_append_right (by rw [I64_len, h.1]; omega), I64_len, h.1]; rfl
theorem RawO.frozen {W : World} {B n : Nat} {vs : List Int} (h : RawO W B vs n) (k : Nat) : W.frozen? ⟨B, k, none⟩ = false := by
  simp [World.frozen?, h.2]
theorem RawO.of_block {W W' : World} {B n : Nat} {vs : List Int} (h : RawO W B vs n) (hg : W'.heap[B]? = W.heap[B]?) : RawO W' B vs n := ⟨h.1, hg.trans h.2⟩
theorem RawO.but {W W' : World} {S : List Nat} {B n : Nat} {vs : List Int} (h : RawO W B vs n) (hb : But S W W') (hB : B ∉ S) : RawO W' B vs n := h.of_block (hb.block B h.lt hB)
theorem RawO.below {W W' : World} {B n : Nat} {vs : List Int} (h : RawO W B vs n) (hb : Below W.heap.size W W') : RawO W' B vs n := h.of_block (hb.block B h.lt)
theorem RawO.drew {W : World} {B n : Nat} {vs : List Int} (h : RawO W B vs n) : RawO W.drew B vs n := h
theorem Ord.but {W W' : World} {S : List Nat} {B n : Nat} {l : List Int} (h : Ord W B n l) (hb : But S W W') (hB : B ∉ S) : Ord W' B n l := by
  obtain ⟨vs, h1, r⟩ := h.raw
  exact ⟨⟨vs, h1.but hb hB, r⟩, h.pos, h.le, h.perm⟩
theorem Ord.fresh {W W' : World} {B n : Nat} {l : List Int} (h : Ord W B n l) (hb : But [] W W') : Ord W' B n l := h.but hb (by simp)
theorem Ord.below {W W' : World} {B n : Nat} {l : List Int} (h : Ord W B n l) (hb : Below W.heap.size W W') : Ord W' B n l := h.fresh (But.of_below hb [])

theorem RawO.setV {W : World} {B n : Nat} {vs : List Int} (h : RawO W B vs n) {k : Nat} (hk : k < 6) (x : Int) : RawO (W.setCell ⟨B, k, none⟩ (.int .i64 x)) B (vs.set k x) n := by
  refine ⟨by simp [h.1], (heap_set_same _ h.2).trans ?_⟩
  have hl := h.1
  rw [List.setIfInBounds_toArray, List.set_append_left _ _ (by rw [I64_len]; omega)]
  simp [I64, List.map_set]
theorem RawO.row {W : World} {B n : Nat} {vs l : List Int} (h : RawO W B vs n) (hl : l = vs.take n) (hn : n ≤ 6) {k : Nat} (hk : k < n) : W.cell? ⟨B, k, none⟩ = some (.int .i64 (l[k]?.getD 0)) := by
  rw [h.cellV (by omega), hl, List.getElem?_take_of_lt hk]

/-! ### What is answered -/
/-- An int of Go's. -/
def I64b (i : Int) : Prop := -9223372036854775808 ≤ i ∧ i ≤ 9223372036854775807
def tookE (l : List Int) (k : Int) : Int := if k ∈ l then 0 else 2
def tookX (l : List Int) (k : Int) : List Int := if k ∈ l then l.erase k ++ [k] else l

theorem take_snocI (xs : List Int) (k : Nat) (hk : k < xs.length) : xs.take (k + 1) = xs.take k ++ [xs[k]?.getD 0] := by
  rw [List.take_add_one, List.getElem?_eq_getElem hk]; rfl
theorem mem_of_getDI {xs : List Int} {k : Nat} (h : k < xs.length) : xs[k]?.getD 0 ∈ xs := by rw [List.getElem?_eq_getElem h]; simp
theorem idx_first {xs : List Int} {i : Int} {k : Nat} (h1 : xs[k]? = some i) (h2 : i ∉ xs.take k) : xs.idxOf? i = some k := by
  obtain ⟨hk, he⟩ := List.getElem?_eq_some_iff.1 h1
  rw [List.idxOf?, List.findIdx?_eq_some_iff_getElem]
  refine ⟨hk, by simp [he], fun j hj => ?_⟩
  have hlt : j < xs.length := by omega
  simp only [beq_iff_eq]
  intro e
  exact h2 (by rw [← e]; exact List.mem_take_iff_getElem.2 ⟨j, by omega, rfl⟩)
/-- The place of i, or -1. -/
def atV (xs : List Int) (i : Int) : Int := match xs.idxOf? i with
  | some k => (k : Int)
  | none => -1
theorem atV_not {xs : List Int} {i : Int} (h : i ∉ xs) : atV xs i = -1 := by
  have : xs.idxOf? i = none := by simpa using h
  rw [atV, this]
theorem atV_is {xs : List Int} {i : Int} (h : i ∈ xs) : ∃ k, xs.idxOf? i = some k ∧ xs[k]? = some i ∧ atV xs i = (k : Int) ∧ k < xs.length := by
  cases e : xs.idxOf? i with
  | none => exact absurd h (by simpa using e)
  | some k =>
    rw [List.idxOf?, List.findIdx?_eq_some_iff_getElem] at e
    obtain ⟨h1, h2, h3⟩ := e
    have e2 : xs[k]? = some i := by rw [List.getElem?_eq_getElem h1]; simpa using h2
    have e3 : xs.idxOf? i = some k := by rw [List.idxOf?, List.findIdx?_eq_some_iff_getElem]; exact ⟨h1, h2, h3⟩
    refine ⟨k, rfl, e2, by rw [atV, e3], h1⟩
theorem atV_first {xs : List Int} {i : Int} {k : Nat} (h1 : xs[k]? = some i) (h2 : i ∉ xs.take k) : atV xs i = (k : Int) := by rw [atV, idx_first h1 h2]
theorem erase_at {l : List Int} {k : Int} {p : Nat} (h : l.idxOf? k = some p) : l.erase k = l.eraseIdx p := by
  rw [List.erase_eq_eraseIdx, h]
def ageV (l : List Int) (k : Int) : Int := if k ∈ l then (l.length : Int) - 1 - atV l k else -1

/-! ### What Took leaves in the places -/
/-- The places behind the copy: all behind place p close up. -/
def closed (vs : List Int) (n p : Nat) : List Int := vs.take p ++ ((vs.take n).drop (p + 1) ++ vs.drop (n - 1))
theorem closed_len {vs : List Int} {n p : Nat} (hv : vs.length = 6) (hn : n ≤ 6) (hp : p < n) : (closed vs n p).length = 6 := by
  simp [closed]; omega
theorem closed_took {vs l : List Int} {n p : Nat} {k : Int} (hv : vs.length = 6) (hn : n ≤ 6) (hl : l = vs.take n) (hp : l.idxOf? k = some p) (hpn : p < n) :
    ((closed vs n p).set (n - 1) k).take n = l.erase k ++ [k] := by
  have hE : ((vs.take n).eraseIdx p).length = n - 1 := by
    rw [List.length_eraseIdx_of_lt (by rw [List.length_take]; omega), List.length_take]; omega
  rw [erase_at hp, hl]
  apply List.ext_getElem?
  intro j
  rw [List.getElem?_take]
  by_cases hj : j < n
  · rw [if_pos hj]
    by_cases hj2 : j = n - 1
    · subst hj2
      rw [List.getElem?_set_self (by rw [closed_len hv hn hpn]; omega), List.getElem?_append_right (by rw [hE]; omega)]
      rw [hE, Nat.sub_self]; rfl
    · rw [List.getElem?_set_ne (by omega), List.getElem?_append_left (by rw [hE]; omega), List.getElem?_eraseIdx, closed]
      by_cases hjp : j < p
      · rw [if_pos hjp, List.getElem?_append_left (by simp; omega), List.getElem?_take_of_lt hjp, List.getElem?_take_of_lt hj]
      · rw [if_neg hjp, List.getElem?_append_right (by simp; omega), List.getElem?_append_left (by simp; omega), List.getElem?_drop]
        congr 1
        simp; omega
  · rw [if_neg hj, List.getElem?_eq_none]
    rw [List.length_append, hE]; simp; omega

theorem Perm.took {n : Nat} {l : List Int} (h : Perm n l) {k : Int} (hk : k ∈ l) : Perm n (l.erase k ++ [k]) := by
  have hp : (l.erase k ++ [k]).Perm l := (List.perm_append_comm).trans (List.perm_cons_erase hk).symm
  refine ⟨hp.length_eq.trans h.len, (hp.nodup_iff).2 h.nd, fun x => ?_⟩
  rw [hp.mem_iff]; exact h.mem x

/-! ### Sets of numbers as bits -/
def bitOf (k : Int) : Nat := if 0 ≤ k ∧ k < 64 then 2 ^ k.toNat else 0
def has (s : Nat) (k : Int) : Bool := decide (0 ≤ k ∧ k < 64) && s.testBit k.toNat

theorem bitOf_in {k : Int} (h0 : 0 ≤ k) (h1 : k < 64) : bitOf k = 2 ^ k.toNat := by rw [bitOf, if_pos ⟨h0, h1⟩]
theorem bitOf_out {k : Int} (h : ¬ (0 ≤ k ∧ k < 64)) : bitOf k = 0 := by rw [bitOf, if_neg h]
theorem bitOf_lt (k : Int) : bitOf k < 18446744073709551616 := by
  by_cases h : 0 ≤ k ∧ k < 64
  · rw [bitOf_in h.1 h.2, show (18446744073709551616 : Nat) = 2 ^ 64 from rfl]
    exact Nat.pow_lt_pow_right (by decide) (by omega)
  · rw [bitOf_out h]; decide
theorem shl_bit {k : Int} (h0 : 0 ≤ k) : IntKind.u64.wrap ((2 : Int) ^ min k.toNat 64) = (bitOf k : Nat) := by
  rw [IntKind.wrap_u64, u64_shl_one_var k h0]
  by_cases h : 64 ≤ k
  · rw [if_pos h, bitOf_out (by omega)]; rfl
  · rw [if_neg h, bitOf_in h0 (by omega)]; simp
theorem and_bit (s : Nat) (k : Int) : (s &&& bitOf k = 0) ↔ has s k = false := by
  by_cases h : 0 ≤ k ∧ k < 64
  · rw [bitOf_in h.1 h.2, nat_bit, has, decide_eq_true h, Bool.true_and, Nat.testBit_eq_decide_div_mod_eq]
    have hp : 0 < 2 ^ k.toNat := Nat.two_pow_pos _
    have h2 : s / 2 ^ k.toNat % 2 = 0 ∨ s / 2 ^ k.toNat % 2 = 1 := by omega
    rcases h2 with h2 | h2
    · rw [h2]; simp
    · rw [h2]; simp
  · rw [bitOf_out h, has, decide_eq_false h]; simp
theorem and_has {s : Nat} (hs : s < 18446744073709551616) (k : Int) : (bits .and .u64 (s : Int) (bitOf k : Nat) != 0) = has s k := by
  rw [u64_and_nat s (bitOf k) hs (bitOf_lt k)]
  cases h : has s k with
  | false => rw [(and_bit s k).2 h]; rfl
  | true =>
    have : s &&& bitOf k ≠ 0 := fun e => by rw [(and_bit s k).1 e] at h; cases h
    simp [this]
theorem has_div {s : Nat} {k : Int} (h0 : 0 ≤ k) (h1 : k < 64) : has s k = decide (s / 2 ^ k.toNat % 2 = 1) := by
  rw [has, decide_eq_true ⟨h0, h1⟩, Bool.true_and, Nat.testBit_eq_decide_div_mod_eq]

/-- All that are in the set, in the row's order; the first one. -/
def chosen (s : Nat) (l : List Int) : List Int := l.filter (has s)
def pickV (s : Nat) (l : List Int) : Int := (chosen s l).head?.getD 0
def pickB (s : Nat) (l : List Int) : Bool := (chosen s l).head?.isSome
end Go.Proofs.Ytamkmmpockmpfaa.Od
