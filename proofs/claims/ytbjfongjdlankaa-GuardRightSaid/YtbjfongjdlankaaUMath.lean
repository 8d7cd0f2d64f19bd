/-
  Rows of ints and guards in memory; what is answered; pure.
-/
import Derived.Lib.SliceRun
import Derived.BigQuiet
import Derived.Test.YtbjfongjdlankaaTAny
namespace Go.Proofs.Ytbjfongjdlankaa
open Go.RowKit

theorem infoInt : (Try.prog.info? 3).map (fun i => (i.zero, i.size, i.bytes)) = some (some (.int .i64 0), 1, 8) := by kernel_rfl

/-! ### Rows of ints -/
def I64 (xs : List Int) : List Value := xs.map (Value.int .i64)
theorem I64_len (xs : List Int) : (I64 xs).length = xs.length := by simp [I64]
theorem I64_one {xs : List Int} : ∀ u ∈ I64 xs, u.oneCell' = true := by intro x hx; simp [I64] at hx; obtain ⟨y, _, rfl⟩ := hx; rfl
/-- The number in place k. -/
def atI (xs : List Int) (k : Nat) : Int := xs[k]?.getD 0
theorem I64_at {xs : List Int} {k : Nat} (h : k < xs.length) : (I64 xs)[k]? = some (.int .i64 (atI xs k)) := by
  rw [I64, List.getElem?_map, List.getElem?_eq_getElem h, atI, List.getElem?_eq_getElem h]; rfl
theorem atI_take {xs : List Int} {h k : Nat} (hk : k < h) : atI (xs.take h) k = atI xs k := by unfold atI; rw [List.getElem?_take_of_lt hk]
theorem atI_of {xs : List Int} {k : Nat} (h : k < xs.length) : atI xs k = xs[k] := by unfold atI; rw [List.getElem?_eq_getElem h]; rfl
theorem atI_mem {xs : List Int} {k : Nat} (h : k < xs.length) : atI xs k ∈ xs := by rw [atI_of h]; simp

/-- None of these blocks is a row of ints. -/
def NotInts (w : World) (S : List Nat) : Prop := ∀ k ∈ S, ∀ cs z, w.heap[k]? ≠ some (.cells cs 3 z)
theorem NotInts.nil (w : World) : NotInts w [] := fun _ h => by cases h
theorem NotInts.cons {w : World} {S : List Nat} {k : Nat} {cs : Array Value} {t : TypeId} {z : Nat × Nat} (h : w.heap[k]? = some (.cells cs t z)) (ht : t ≠ 3) (hS : NotInts w S) : NotInts w (k :: S) := by
  intro j hj ds y he
  rcases List.mem_cons.1 hj with rfl | hj
  · rw [h] at he
    simp only [Option.some.injEq, Obj.cells.injEq] at he
    exact ht he.2.1
  · exact hS j hj ds y he

/-- The slice from a on, of that capacity, reads as xs, and lies in a block of ints. -/
structure RowT (w : World) (a : Option Addr) (cap : Nat) (xs : List Int) : Prop where
  cap : xs.length ≤ cap
  row : 0 < xs.length → ∃ b off cs z, a = some ⟨b, off, none⟩ ∧ w.heap[b]? = some (.cells cs 3 z) ∧ ∀ j, j < xs.length → w.cell? ⟨b, off + j, none⟩ = some (.int .i64 (atI xs j))
theorem RowT.nil (w : World) (a : Option Addr) (cap : Nat) : RowT w a cap [] := ⟨Nat.zero_le _, fun h => by cases h⟩
theorem RowT.but {w w' : World} {a : Option Addr} {cap : Nat} {xs : List Int} (h : RowT w a cap xs) {S : List Nat} (hb : But S w w') (hS : NotInts w S) : RowT w' a cap xs := by
  refine ⟨h.cap, fun h0 => ?_⟩
  obtain ⟨b, off, cs, z, rfl, h1, h2⟩ := h.row h0
  have hn : b ∉ S := fun hm => hS b hm cs z h1
  exact ⟨b, off, cs, z, rfl, (hb.block b (Array.getElem?_eq_some_iff.1 h1).1 hn).trans h1, fun j hj => hb.cell (h2 j hj) hn⟩
theorem RowT.drewN {w : World} {a : Option Addr} {cap : Nat} {xs : List Int} (h : RowT w a cap xs) (k : Nat) : RowT (w.drewN k) a cap xs := ⟨h.cap, h.row⟩
theorem RowT.take {w : World} {a : Option Addr} {cap : Nat} {xs : List Int} (h : RowT w a cap xs) (k : Nat) : RowT w a cap (xs.take k) := by
  refine ⟨Nat.le_trans (List.length_take_le' k xs) h.cap, fun h0 => ?_⟩
  rw [List.length_take] at h0
  obtain ⟨b, off, cs, z, rfl, h1, h2⟩ := h.row (by omega)
  refine ⟨b, off, cs, z, rfl, h1, fun j hj => ?_⟩
  rw [List.length_take] at hj
  rw [atI_take (by omega)]
  exact h2 j (by omega)
theorem RowT.of_owns {w : World} {base n : Nat} {v : Value} {xs : List Int} (h : w.ownsRow base 3 1 v n (I64 xs)) : ∃ a cap, v = .slice a xs.length cap ∧ RowT w a cap xs := by
  have hn : xs.length = n := by have := h.1; rw [I64_len] at this; omega
  subst hn
  rcases id h.2 with ⟨rfl, h0⟩ | ⟨g, cap, cur, rfl, _, hg, hc, _⟩
  · obtain rfl := List.length_eq_zero_iff.1 h0
    exact ⟨none, 0, rfl, RowT.nil _ _ _⟩
  · refine ⟨_, cap, rfl, hc, fun h0 => ⟨g, 0, cur, _, rfl, hg, fun j hj => ?_⟩⟩
    have := h.cellAt j (by omega)
    rw [Nat.zero_add, this, I64_at hj]

/-- The slice from a on reads as xs (it may lie anywhere). -/
def RowA (w : World) (a : Option Addr) (xs : List Int) : Prop := 0 < xs.length → ∃ b off, a = some ⟨b, off, none⟩ ∧ ∀ j, j < xs.length → w.cell? ⟨b, off + j, none⟩ = some (.int .i64 (atI xs j))
theorem RowT.any {w : World} {a : Option Addr} {cap : Nat} {xs : List Int} (h : RowT w a cap xs) : RowA w a xs := fun h0 => by
  obtain ⟨b, off, cs, z, rfl, h1, h2⟩ := h.row h0
  exact ⟨b, off, rfl, h2⟩
theorem RowA.but {w w' : World} {a : Option Addr} {xs : List Int} (h : RowA w a xs) (hb : But [] w w') : RowA w' a xs := fun h0 => by
  obtain ⟨b, off, rfl, h2⟩ := h h0
  exact ⟨b, off, rfl, fun j hj => hb.cell (h2 j hj) (by simp)⟩

/-! ### Guards -/
/-- What a guard is: the row that it wants, how many of it it has, whether it has a ticket, its ticket. -/
structure Gs where
  l : List Int
  h : Nat
  d : Bool
  t : Nat
def Gs.all (s : Gs) : Bool := decide (s.h = s.l.length)
def Gs.none : Gs := ⟨[], 0, false, 0⟩

/-- Block G is a guard on the locks L, that is s; its row's slice starts at a. -/
structure Gd (W : World) (G L : Nat) (a : Option Addr) (cap : Nat) (s : Gs) : Prop where
  head : W.heap[G]? = some (.cells #[.pointer (some ⟨L, 0, Option.none⟩), .slice a s.l.length cap, .int .i64 (s.h : Int), .bool s.d, .int .u16 (s.t : Int)] 76 (0, 0))
  row : RowT W a cap s.l
  le : s.h ≤ s.l.length
  len : s.l.length ≤ 4096
theorem Gd.lt {W : World} {G L : Nat} {a : Option Addr} {cap : Nat} {s : Gs} (h : Gd W G L a cap s) : G < W.heap.size := (Array.getElem?_eq_some_iff.1 h.head).1
theorem Gd.c0 {W : World} {G L : Nat} {a : Option Addr} {cap : Nat} {s : Gs} (h : Gd W G L a cap s) : W.cell? ⟨G, 0, Option.none⟩ = some (.pointer (some ⟨L, 0, Option.none⟩)) := by simp [World.cell?, h.head]
theorem Gd.c1 {W : World} {G L : Nat} {a : Option Addr} {cap : Nat} {s : Gs} (h : Gd W G L a cap s) : W.cell? ⟨G, 1, Option.none⟩ = some (.slice a s.l.length cap) := by simp [World.cell?, h.head]
theorem Gd.c2 {W : World} {G L : Nat} {a : Option Addr} {cap : Nat} {s : Gs} (h : Gd W G L a cap s) : W.cell? ⟨G, 2, Option.none⟩ = some (.int .i64 (s.h : Int)) := by simp [World.cell?, h.head]
theorem Gd.c3 {W : World} {G L : Nat} {a : Option Addr} {cap : Nat} {s : Gs} (h : Gd W G L a cap s) : W.cell? ⟨G, 3, Option.none⟩ = some (.bool s.d) := by simp [World.cell?, h.head]
theorem Gd.c4 {W : World} {G L : Nat} {a : Option Addr} {cap : Nat} {s : Gs} (h : Gd W G L a cap s) : W.cell? ⟨G, 4, Option.none⟩ = some (.int .u16 (s.t : Int)) := by simp [World.cell?, h.head]
theorem Gd.frozen {W : World} {G L : Nat} {a : Option Addr} {cap : Nat} {s : Gs} (h : Gd W G L a cap s) (k : Nat) : W.frozen? ⟨G, k, Option.none⟩ = false := by simp [World.frozen?, h.head]
theorem Gd.but {W W' : World} {G L : Nat} {a : Option Addr} {cap : Nat} {s : Gs} (h : Gd W G L a cap s) {S : List Nat} (hb : But S W W') (hG : G ∉ S) (hS : NotInts W S) : Gd W' G L a cap s :=
  ⟨(hb.block G h.lt hG).trans h.head, h.row.but hb hS, h.le, h.len⟩
theorem Gd.next {W W' : World} {G L : Nat} {a : Option Addr} {cap : Nat} {s : Gs} (h : Gd W G L a cap s) (hb : But [] W W') : Gd W' G L a cap s := h.but hb (by simp) (NotInts.nil _)
theorem Gd.drewN {W : World} {G L : Nat} {a : Option Addr} {cap : Nat} {s : Gs} (h : Gd W G L a cap s) (k : Nat) : Gd (W.drewN k) G L a cap s := ⟨h.head, h.row.drewN k, h.le, h.len⟩
theorem Gd.drew {W : World} {G L : Nat} {a : Option Addr} {cap : Nat} {s : Gs} (h : Gd W G L a cap s) : Gd W.drew G L a cap s := h.drewN 1
theorem Gd.own {W : World} {G L : Nat} {a : Option Addr} {cap : Nat} {s : Gs} (h : Gd W G L a cap s) : NotInts W [G] := NotInts.cons h.head (by decide) (NotInts.nil _)
/-- The cells' blocks are not rows of ints. -/
theorem Cels.notInts {W : World} {B V : Nat} {vs : List Nat} {c : Nat} (h : Cels W B V vs c) : NotInts W [B, V] := NotInts.cons h.head (by decide) (NotInts.cons h.row (by decide) (NotInts.nil _))
/-- What turns cells leaves guards. -/
theorem Gd.cels {W W' : World} {G L B V : Nat} {a : Option Addr} {cap : Nat} {s : Gs} {vs : List Nat} {c : Nat} (h : Gd W G L a cap s) (hC : Cels W B V vs c) (hb : But [B, V] W W') : Gd W' G L a cap s :=
  h.but hb (by simpa using ⟨type_ne h.head hC.head (by decide), type_ne h.head hC.row (by decide)⟩) hC.notInts
/-- What turns a guard leaves cells, and locks. -/
theorem Cels.guard {W W' : World} {G L B V : Nat} {a : Option Addr} {cap : Nat} {s : Gs} {vs : List Nat} {c : Nat} (hC : Cels W B V vs c) (h : Gd W G L a cap s) (hb : But [G] W W') : Cels W' B V vs c :=
  hC.but hb (by simpa using type_ne hC.head h.head (by decide)) (by simpa using type_ne hC.row h.head (by decide))
theorem Lks.guard {W W' : World} {G L L' P Q B base n : Nat} {a : Option Addr} {cap : Nat} {s : Gs} (hL : Lks W L' P Q B base n) (h : Gd W G L a cap s) (hb : But [G] W W') : Lks W' L' P Q B base n :=
  hL.but hb (by simpa using type_ne hL.head h.head (by decide)) (by simpa using type_ne hL.boxN h.head (by decide)) (by simpa using type_ne hL.boxB h.head (by decide))

/-! #### Stores into a guard -/
theorem Gd.setL {W : World} {G L : Nat} {a b : Option Addr} {cap kap : Nat} {s : Gs} (h : Gd W G L a cap s) {l : List Int} {n : Nat} (hn : n = l.length) (hr : RowT W b kap l) (hh : s.h ≤ l.length) (hl : l.length ≤ 4096) : Gd (W.setCell ⟨G, 1, Option.none⟩ (.slice b n kap)) G L b kap { s with l := l } := by
  subst hn
  exact ⟨heap_set_same _ h.head, hr.but ((But.refl [G] W).set (.inl (by simp)) _) h.own, hh, hl⟩
theorem Gd.setH {W : World} {G L : Nat} {a : Option Addr} {cap : Nat} {s : Gs} (h : Gd W G L a cap s) {k : Nat} {x : Int} (hx : x = (k : Int)) (hk : k ≤ s.l.length) : Gd (W.setCell ⟨G, 2, Option.none⟩ (.int .i64 x)) G L a cap { s with h := k } := by
  subst hx
  exact ⟨heap_set_same _ h.head, h.row.but ((But.refl [G] W).set (.inl (by simp)) _) h.own, hk, h.len⟩
theorem Gd.setD {W : World} {G L : Nat} {a : Option Addr} {cap : Nat} {s : Gs} (h : Gd W G L a cap s) (b : Bool) : Gd (W.setCell ⟨G, 3, Option.none⟩ (.bool b)) G L a cap { s with d := b } :=
  ⟨heap_set_same _ h.head, h.row.but ((But.refl [G] W).set (.inl (by simp)) _) h.own, h.le, h.len⟩
theorem Gd.setT {W : World} {G L : Nat} {a : Option Addr} {cap : Nat} {s : Gs} (h : Gd W G L a cap s) {k : Nat} {x : Int} (hx : x = (k : Int)) : Gd (W.setCell ⟨G, 4, Option.none⟩ (.int .u16 x)) G L a cap { s with t := k } := by
  subst hx
  exact ⟨heap_set_same _ h.head, h.row.but ((But.refl [G] W).set (.inl (by simp)) _) h.own, h.le, h.len⟩

/-! ### What is answered, and what is left -/
/-- Are these a guard's locks: each of n, rising? -/
def risesFrom (n : Nat) : Int → List Int → Bool
  | _, [] => true
  | p, x :: r => decide (x < (n : Int)) && decide (p < x) && risesFrom n x r
def rises (n : Nat) (l : List Int) : Bool := risesFrom n (-1) l
def wantE (n : Nat) (s : Gs) (l : List Int) : Int := if 0 < s.h ∨ s.d = true then 9 else if rises n l then 0 else 2
def wantS (n : Nat) (s : Gs) (l : List Int) : Gs := if wantE n s l = 0 then { s with l := l } else s
def stepE (s : Gs) : Int := if s.all then 3 else 0
def stepS (base n : Nat) (vs : List Nat) (s : Gs) : Gs :=
  if s.all then s
  else if s.d = false then { s with t := drawE base n vs (atI s.l s.h), d := true }
  else if mineE base n vs (atI s.l s.h) s.t then { s with h := s.h + 1, d := false, t := 0 } else s
def stepV (base n : Nat) (vs : List Nat) (s : Gs) : List Nat := if s.all then vs else if s.d = false then drawV base n vs (atI s.l s.h) else vs
def stepC (n c : Nat) (s : Gs) : Nat := if s.all then c else countUp n c (atI s.l s.h)
def stepA (base n : Nat) (vs : List Nat) (s : Gs) : Bool := if s.all then false else (stepS base n vs s).all
def giveE (s : Gs) : Int := if s.h = 0 then 3 else if s.d then 9 else 0
def giveS (s : Gs) : Gs := if giveE s = 0 then { s with l := s.l.take (s.h - 1), h := s.h - 1 } else s
def giveVs (base n : Nat) (vs : List Nat) (s : Gs) : List Nat := if giveE s = 0 then giveV base n vs (atI s.l (s.h - 1)) else vs
def giveC (n c : Nat) (s : Gs) : Nat := if giveE s = 0 then countUp n c (atI s.l (s.h - 1)) else c
def giveN (s : Gs) : Nat := if giveE s = 0 then s.h - 1 else 0
theorem stepV_len (base n : Nat) (vs : List Nat) (s : Gs) : (stepV base n vs s).length = vs.length := by
  unfold stepV; split
  · rfl
  · split
    · exact drawV_len _ _ _ _
    · rfl
theorem giveVs_len (base n : Nat) (vs : List Nat) (s : Gs) : (giveVs base n vs s).length = vs.length := by unfold giveVs; split <;> simp [giveV_len]
end Go.Proofs.Ytbjfongjdlankaa
