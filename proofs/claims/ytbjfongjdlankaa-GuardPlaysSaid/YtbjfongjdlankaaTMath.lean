/-
  Locks in memory; which cells a lock has; what is answered; pure.
-/
import Derived.Test.YtbjfongjdlankaaCRw
namespace Go.Proofs.Ytbjfongjdlankaa
open Go.RowKit

/-- Block L is n locks on the cells B from base on; P and Q are the boxes of its closure. -/
structure Lks (W : World) (L P Q B base n : Nat) : Prop where
  head : W.heap[L]? = some (.cells #[.pointer (some ⟨B, 0, none⟩), .int .i64 (n : Int), .func (.func 45) #[] #[.pointer (some ⟨P, 0, none⟩), .pointer (some ⟨Q, 0, none⟩)]] 91 (0, 0))
  boxN : Boxed W P 3 (.int .i64 (n : Int))
  boxB : Boxed W Q 3 (.int .i64 (base : Int))
  most : n ≤ 300
  room : base + 2 * n ≤ 4096

theorem Lks.ltL {W : World} {L P Q B base n : Nat} (h : Lks W L P Q B base n) : L < W.heap.size := (Array.getElem?_eq_some_iff.1 h.head).1
theorem Lks.cell0 {W : World} {L P Q B base n : Nat} (h : Lks W L P Q B base n) : W.cell? ⟨L, 0, none⟩ = some (.pointer (some ⟨B, 0, none⟩)) := by simp [World.cell?, h.head]
theorem Lks.cell1 {W : World} {L P Q B base n : Nat} (h : Lks W L P Q B base n) : W.cell? ⟨L, 1, none⟩ = some (.int .i64 (n : Int)) := by simp [World.cell?, h.head]
theorem Lks.cell2 {W : World} {L P Q B base n : Nat} (h : Lks W L P Q B base n) : W.cell? ⟨L, 2, none⟩ = some (.func (.func 45) #[] #[.pointer (some ⟨P, 0, none⟩), .pointer (some ⟨Q, 0, none⟩)]) := by simp [World.cell?, h.head]
theorem Lks.but {W W' : World} {L P Q B base n : Nat} (h : Lks W L P Q B base n) {S : List Nat} (hb : But S W W') (h1 : L ∉ S) (h2 : P ∉ S) (h3 : Q ∉ S) : Lks W' L P Q B base n :=
  ⟨(hb.block L h.ltL h1).trans h.head, hb.boxed h.boxN h2, hb.boxed h.boxB h3, h.most, h.room⟩
theorem type_ne {W : World} {A B : Nat} {cs ds : Array Value} {t u : TypeId} {z y : Nat × Nat} (h : W.heap[A]? = some (.cells cs t z)) (k : W.heap[B]? = some (.cells ds u y)) (hne : t ≠ u) : A ≠ B := by
  rintro rfl
  have := h.symm.trans k
  simp only [Option.some.injEq, Obj.cells.injEq] at this
  exact hne this.2.1
/-- What turns cells leaves locks. -/
theorem Lks.cels {W W' : World} {L P Q B base n B' V' : Nat} {vs : List Nat} {c : Nat} (h : Lks W L P Q B base n) (hc : Cels W B' V' vs c) (hb : But [B', V'] W W') : Lks W' L P Q B base n := by
  refine h.but hb ?_ ?_ ?_
  · simpa using ⟨type_ne h.head hc.head (by decide), type_ne h.head hc.row (by decide)⟩
  · simpa using ⟨type_ne h.boxN hc.head (by decide), type_ne h.boxN hc.row (by decide)⟩
  · simpa using ⟨type_ne h.boxB hc.head (by decide), type_ne h.boxB hc.row (by decide)⟩
theorem Lks.drewN {W : World} {L P Q B base n : Nat} (h : Lks W L P Q B base n) (k : Nat) : Lks (W.drewN k) L P Q B base n := ⟨h.head, h.boxN, h.boxB, h.most, h.room⟩
theorem Lks.drew {W : World} {L P Q B base n : Nat} (h : Lks W L P Q B base n) : Lks W.drew L P Q B base n := ⟨h.head, h.boxN, h.boxB, h.most, h.room⟩

/-! ### A lock's two cells -/
def nextAt (base k : Nat) : Nat := base + 2 * k
def servedAt (base k : Nat) : Nat := base + 2 * k + 1
/-- The ticket of a number. -/
def tick (x : Nat) : Nat := x % 65536
/-- A difference around the end of 64 bits. -/
def minus (x y : Nat) : Nat := (x + 18446744073709551616 - y) % 18446744073709551616
theorem tick_lt (x : Nat) : tick x < 65536 := Nat.mod_lt _ (by omega)

def drawE (base n : Nat) (vs : List Nat) (k : Int) : Nat := if inRow n k then tick (nth vs (nextAt base k.toNat)) else 0
def drawV (base n : Nat) (vs : List Nat) (k : Int) : List Nat := if inRow n k then vs.set (nextAt base k.toNat) (up (nth vs (nextAt base k.toNat))) else vs
def mineE (base n : Nat) (vs : List Nat) (k : Int) (t : Nat) : Bool := inRow n k && decide (tick (nth vs (servedAt base k.toNat)) = t)
def giveV (base n : Nat) (vs : List Nat) (k : Int) : List Nat := if inRow n k then vs.set (servedAt base k.toNat) (up (nth vs (servedAt base k.toNat))) else vs
def waitE (base n : Nat) (vs : List Nat) (k : Int) : Nat := if inRow n k then tick (minus (nth vs (nextAt base k.toNat)) (nth vs (servedAt base k.toNat))) else 0
def freeE (base n : Nat) (vs : List Nat) (k : Int) : Bool := inRow n k && decide (waitE base n vs k = 0)
theorem drawV_len (base n : Nat) (vs : List Nat) (k : Int) : (drawV base n vs k).length = vs.length := by unfold drawV; split <;> simp
theorem giveV_len (base n : Nat) (vs : List Nat) (k : Int) : (giveV base n vs k).length = vs.length := by unfold giveV; split <;> simp
end Go.Proofs.Ytbjfongjdlankaa
