/-
  Claims in memory; what is answered; pure.
-/
import Derived.Test.YtbpelcclkmmglaaCRw
import Derived.Test.YtbpelcclkmmglaaCCas
namespace Go.Proofs.Ytbpelcclkmmglaa
open Go.RowKit

/-- Block L is n claims on the cells B from base on; P and Q are the boxes of its closure. -/
structure Clm (W : World) (L P Q B base n : Nat) : Prop where
  head : W.heap[L]? = some (.cells #[.pointer (some ⟨B, 0, none⟩), .int .i64 (n : Int), .func (.func 23) #[] #[.pointer (some ⟨P, 0, none⟩), .pointer (some ⟨Q, 0, none⟩)]] 57 (0, 0))
  boxN : Boxed W P 3 (.int .i64 (n : Int))
  boxB : Boxed W Q 3 (.int .i64 (base : Int))
  most : n ≤ 32
  room : base + n ≤ 4096

theorem Clm.ltL {W : World} {L P Q B base n : Nat} (h : Clm W L P Q B base n) : L < W.heap.size := (Array.getElem?_eq_some_iff.1 h.head).1
theorem Clm.cell0 {W : World} {L P Q B base n : Nat} (h : Clm W L P Q B base n) : W.cell? ⟨L, 0, none⟩ = some (.pointer (some ⟨B, 0, none⟩)) := by simp [World.cell?, h.head]
theorem Clm.cell1 {W : World} {L P Q B base n : Nat} (h : Clm W L P Q B base n) : W.cell? ⟨L, 1, none⟩ = some (.int .i64 (n : Int)) := by simp [World.cell?, h.head]
theorem Clm.cell2 {W : World} {L P Q B base n : Nat} (h : Clm W L P Q B base n) : W.cell? ⟨L, 2, none⟩ = some (.func (.func 23) #[] #[.pointer (some ⟨P, 0, none⟩), .pointer (some ⟨Q, 0, none⟩)]) := by simp [World.cell?, h.head]
theorem Clm.but {W W' : World} {L P Q B base n : Nat} (h : Clm W L P Q B base n) {S : List Nat} (hb : But S W W') (h1 : L ∉ S) (h2 : P ∉ S) (h3 : Q ∉ S) : Clm W' L P Q B base n :=
  ⟨(hb.block L h.ltL h1).trans h.head, hb.boxed h.boxN h2, hb.boxed h.boxB h3, h.most, h.room⟩
theorem type_ne {W : World} {A B : Nat} {cs ds : Array Value} {t u : TypeId} {z y : Nat × Nat} (h : W.heap[A]? = some (.cells cs t z)) (k : W.heap[B]? = some (.cells ds u y)) (hne : t ≠ u) : A ≠ B := by
  rintro rfl
  have := h.symm.trans k
  simp only [Option.some.injEq, Obj.cells.injEq] at this
  exact hne this.2.1
/-- What turns cells leaves claims. -/
theorem Clm.cels {W W' : World} {L P Q B base n B' V' : Nat} {vs : List Nat} {c : Nat} (h : Clm W L P Q B base n) (hc : Cels W B' V' vs c) (hb : But [B', V'] W W') : Clm W' L P Q B base n := by
  refine h.but hb ?_ ?_ ?_
  · simpa using ⟨type_ne h.head hc.head (by decide), type_ne h.head hc.row (by decide)⟩
  · simpa using ⟨type_ne h.boxN hc.head (by decide), type_ne h.boxN hc.row (by decide)⟩
  · simpa using ⟨type_ne h.boxB hc.head (by decide), type_ne h.boxB hc.row (by decide)⟩
theorem Clm.drewN {W : World} {L P Q B base n : Nat} (h : Clm W L P Q B base n) (k : Nat) : Clm (W.drewN k) L P Q B base n := ⟨h.head, h.boxN, h.boxB, h.most, h.room⟩
theorem Clm.drew {W : World} {L P Q B base n : Nat} (h : Clm W L P Q B base n) : Clm W.drew L P Q B base n := ⟨h.head, h.boxN, h.boxB, h.most, h.room⟩

/-! ### What is answered, and what is left -/
def isOdd (x : Nat) : Bool := decide (x % 2 = 1)
theorem isOdd_up {x : Nat} (h : isOdd x = false) : isOdd (up x) = true := by
  have := of_decide_eq_false h
  exact decide_eq_true (by unfold up; omega)
theorem up_eq {a : Nat} (h : a < 18446744073709551615) : up a = a + 1 := by unfold up; omega
/-- The turn of a claim. -/
def turnE (base n : Nat) (vs : List Nat) (k : Int) : Nat := if inRow n k then nth vs (base + k.toNat) else 0
def openIs (base n : Nat) (vs : List Nat) (k : Int) : Bool := isOdd (turnE base n vs k)
/-- Is one opened by it? -/
def opens (base n : Nat) (vs : List Nat) (k : Int) : Bool := inRow n k && !openIs base n vs k
def openE (base n : Nat) (vs : List Nat) (k : Int) : Nat := if opens base n vs k then up (turnE base n vs k) else turnE base n vs k
def openV (base n : Nat) (vs : List Nat) (k : Int) : List Nat := if opens base n vs k then vs.set (base + k.toNat) (up (turnE base n vs k)) else vs
def openC (base n : Nat) (vs : List Nat) (k : Int) (c : Nat) : Nat := if opens base n vs k then up c else c
/-- Is it tried at all? -/
def tries (n : Nat) (k : Int) (t : Nat) : Bool := inRow n k && isOdd t
def claimE (base n : Nat) (vs : List Nat) (k : Int) (t : Nat) : Bool := tries n k t && decide (turnE base n vs k = t)
def claimV (base n : Nat) (vs : List Nat) (k : Int) (t : Nat) : List Nat := if claimE base n vs k t then vs.set (base + k.toNat) (up t) else vs
def claimC (n : Nat) (k : Int) (t c : Nat) : Nat := if tries n k t then up c else c
theorem openV_len (base n : Nat) (vs : List Nat) (k : Int) : (openV base n vs k).length = vs.length := by unfold openV; split <;> simp
theorem claimV_len (base n : Nat) (vs : List Nat) (k : Int) (t : Nat) : (claimV base n vs k t).length = vs.length := by unfold claimV; split <;> simp
theorem turnE_lt {base n : Nat} {vs : List Nat} (h : ∀ x ∈ vs, x < 18446744073709551616) (k : Int) : turnE base n vs k < 18446744073709551616 := by
  unfold turnE; split
  · exact nth_lt h _
  · omega
theorem turnE_nat {base n : Nat} {vs : List Nat} {k : Nat} (h : k < n) : turnE base n vs (k : Int) = nth vs (base + k) := by
  unfold turnE; rw [show inRow n (k : Int) = true from decide_eq_true (by omega)]; rfl
theorem turnE_out {base n : Nat} {vs : List Nat} {k : Int} (h : inRow n k = false) : turnE base n vs k = 0 := by unfold turnE; rw [h]; rfl
end Go.Proofs.Ytbpelcclkmmglaa
