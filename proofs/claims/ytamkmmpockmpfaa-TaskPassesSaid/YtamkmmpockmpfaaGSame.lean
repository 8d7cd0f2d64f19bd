/-
  The walks of Same: rows of the same things, in order.
-/
import Derived.Test.YtamkmmpockmpfaaGCheck
namespace Go.Proofs.Ytamkmmpockmpfaa
open Go.RowKit

def Cas.eq (x y : Cas) : Bool := x.s == y.s && (x.c == y.c && (x.v == y.v && x.o == y.o))
theorem Cas.eq_iff {x y : Cas} : Cas.eq x y = true ↔ x = y := by
  cases x; cases y
  simp [Cas.eq]
/-- As many things, each the same as its like. -/
def sameL {α : Type} (f : α → α → Bool) (xs ys : List α) : Bool := decide (xs.length = ys.length) && (List.range xs.length).all fun k => match xs[k]?, ys[k]? with | some x, some y => f x y | _, _ => true
section
variable {α : Type} {f : α → α → Bool} {xs ys : List α}
theorem same_len (h : xs.length ≠ ys.length) : sameL f xs ys = false := by simp [sameL, h]
theorem same_at {k : Nat} {x y : α} (hx : xs[k]? = some x) (hy : ys[k]? = some y) (h : f x y = false) : sameL f xs ys = false := by
  unfold sameL
  rw [Bool.and_eq_false_iff]
  refine .inr ?_
  rw [List.all_eq_false]
  exact ⟨k, List.mem_range.2 (List.getElem?_eq_some_iff.1 hx).1, by simp [hx, hy, h]⟩
theorem same_all (hl : xs.length = ys.length) (h : ∀ k x y, k < xs.length → xs[k]? = some x → ys[k]? = some y → f x y = true) : sameL f xs ys = true := by
  unfold sameL
  rw [Bool.and_eq_true, decide_eq_true_eq, List.all_eq_true]
  refine ⟨hl, fun k hk => ?_⟩
  have hk := List.mem_range.1 hk
  rw [List.getElem?_eq_getElem hk, List.getElem?_eq_getElem (by omega)]
  exact h k _ _ hk (List.getElem?_eq_getElem hk) (List.getElem?_eq_getElem (by omega))
theorem same_eq (hf : ∀ x y, f x y = true → x = y) (h : sameL f xs ys = true) : xs = ys := by
  unfold sameL at h
  rw [Bool.and_eq_true, decide_eq_true_eq, List.all_eq_true] at h
  refine List.ext_getElem h.1 fun k h1 h2 => ?_
  have := h.2 k (List.mem_range.2 h1)
  rw [List.getElem?_eq_getElem h1, List.getElem?_eq_getElem h2] at this
  exact hf _ _ this
theorem same_refl (hf : ∀ x, f x x = true) (xs : List α) : sameL f xs xs = true := same_all rfl fun k x y _ hx hy => by rw [hx] at hy; cases hy; exact hf x
end
def Sit.eq (x y : Sit) : Bool := (x.d == y.d) && sameL Cas.eq x.cs y.cs
def samePrg (p q : Prg) : Bool := sameL (fun a b : Int => a == b) p.caps q.caps && (sameL (sameL In.eq) p.codes q.codes && sameL Sit.eq p.sites q.sites)
theorem Sit.eq_refl (x : Sit) : Sit.eq x x = true := by simp [Sit.eq, same_refl (fun y => Cas.eq_iff.2 rfl)]
theorem samePrg_refl (p : Prg) : samePrg p p = true := by simp [samePrg, same_refl (fun y : Int => beq_self_eq_true y), same_refl (same_refl In.eq_refl), same_refl Sit.eq_refl]

theorem eq_runC (y x : Cas) (W : World) : (binOp .eql 75 (.agg #[.bool y.s, .int .i64 y.c, .int .i64 y.v, .int .i64 y.o]) (.agg #[.bool x.s, .int .i64 x.c, .int .i64 x.v, .int .i64 x.o])).run Try.prog W = .ok (.bool (Cas.eq y x)) W := by
  have u := Try.underlying75
  simp [go_sem]
  cases h : Cas.eq y x with
  | true =>
    obtain rfl := Cas.eq_iff.1 h
    simp
  | false =>
    have hne : y ≠ x := fun e => by rw [Cas.eq_iff.2 e] at h; cases h
    repeat' split
    all_goals first
      | rfl
      | exact absurd (by cases y; cases x; simp only at *; simp only [Cas.mk.injEq]; refine ⟨?_, ?_, ?_, ?_⟩ <;> assumption) hne
end Go.Proofs.Ytamkmmpockmpfaa
