/-
  The walk of the law ProgNext.
-/
import Derived.Test.YtbbgeopgigeioaaGAlive
namespace Go.Proofs.Ytbbgeopgigeioaa
open Go.RowKit

/-! ### What a program that may be is -/
theorem or_none {a b : Option Wr} (h : a.or b = none) : a = none ∧ b = none := Option.or_eq_none_iff.1 h
theorem wrongIf_none {b : Bool} {x : Wr} (h : wrongIf b x = none) : b = true := by cases b <;> first | rfl | cases h
theorem check_parts {p : Prg} (h : checkW p = none) : chansW p.caps = none ∧ sitesW p.caps.length p.sites = none ∧ codesW p.caps.length p.sites.length p.codes = none ∧ fallsW p.codes = none := by
  unfold checkW at h
  obtain ⟨h1, h⟩ := or_none h
  obtain ⟨h2, h⟩ := or_none h
  obtain ⟨h3, h4⟩ := or_none h
  exact ⟨h1, h2, h3, h4⟩
theorem check_zero {p : Prg} : (checkT p).2.2 = 0 ↔ checkW p = none := by
  unfold checkT
  cases h : checkW p with
  | none => simp
  | some x =>
    simp only [Option.getD_some, reduceCtorEq, iff_false]
    have key : ∀ {α : Type} {f : Nat → α → Option Wr} (l : List α) (n : Nat) (y : Wr), (∀ k x z, f k x = some z → z.2.2 ≠ 0) → firstI f n l = some y → y.2.2 ≠ 0 := by
      intro α f l
      induction l with
      | nil => intro n y _ h; cases h
      | cons a t ih =>
        intro n y hf h
        unfold firstI at h
        rcases Option.or_eq_some_iff.1 h with h | ⟨_, h⟩
        · exact hf _ _ _ h
        · exact ih _ _ hf h
    have kw : ∀ {b : Bool} {u z : Wr}, u.2.2 ≠ 0 → wrongIf b u = some z → z.2.2 ≠ 0 := by
      intro b u z hu hz
      cases b
      · simp [wrongIf] at hz; subst hz; exact hu
      · simp [wrongIf] at hz
    unfold checkW at h
    rcases Option.or_eq_some_iff.1 h with h | ⟨_, h⟩
    · unfold chansW at h
      rcases Option.or_eq_some_iff.1 h with h | ⟨_, h⟩
      · exact kw (by decide) h
      · exact key _ _ _ (fun k x z hz => kw (by simp) hz) h
    rcases Option.or_eq_some_iff.1 h with h | ⟨_, h⟩
    · unfold sitesW at h
      rcases Option.or_eq_some_iff.1 h with h | ⟨_, h⟩
      · exact kw (by decide) h
      · refine key _ _ _ (fun k x z hz => ?_) h
        unfold siteW at hz
        rcases Option.or_eq_some_iff.1 hz with hz | ⟨_, hz⟩
        · exact kw (by simp) hz
        · exact key _ _ _ (fun k x z hz => kw (by simp) hz) hz
    rcases Option.or_eq_some_iff.1 h with h | ⟨_, h⟩
    · unfold codesW at h
      rcases Option.or_eq_some_iff.1 h with h | ⟨_, h⟩
      · exact kw (by decide) h
      · refine key _ _ _ (fun k x z hz => ?_) h
        unfold codeW at hz
        rcases Option.or_eq_some_iff.1 hz with hz | ⟨_, hz⟩
        · exact kw (by simp) hz
        · exact key _ _ _ (fun k x z hz => kw (by simp) hz) hz
    · unfold fallsW at h
      exact key _ _ _ (fun k x z hz => by unfold fallW at hz; exact kw (by simp) hz) h
section
variable {p : Prg} {m n : Nat} {c : List In} {x : In}
theorem may_ins (h : checkW p = none) (hc : p.codes[m]? = some c) (hx : c[n]? = some x) : checkB x p.caps.length p.sites.length p.codes.length c.length = true := by
  obtain ⟨_, _, h3, _⟩ := check_parts h
  unfold codesW at h3
  have := firstI_none.1 (or_none h3).2 m c hc
  unfold codeW at this
  have := firstI_none.1 (or_none this).2 n x hx
  exact wrongIf_none this
theorem may_pos (h : checkW p = none) (hc : p.codes[m]? = some c) : 0 < c.length := codes_pos (check_parts h).2.2.1 c (List.mem_of_getElem? hc)
theorem may_some (h : checkW p = none) : 0 < p.codes.length := by
  obtain ⟨_, _, h3, _⟩ := check_parts h
  unfold codesW at h3
  have := wrongIf_none (or_none h3).1
  unfold withinB at this
  simp at this
  omega
theorem may_last (h : checkW p = none) (hc : p.codes[m]? = some c) (hx : c[c.length - 1]? = some x) : x.o = 10 ∨ x.o = 3 := by
  obtain ⟨_, _, _, h4⟩ := check_parts h
  have := firstI_none.1 h4 m c hc
  unfold fallW lastOp at this
  have := wrongIf_none this
  rw [hx] at this
  simpa using this
theorem may_place {a b d l : Int} (h : checkB x a b d l = true) (ho : x.o = 3 ∨ x.o = 4) : 0 ≤ x.k ∧ x.k < l := by
  obtain ⟨o, xa, xb, xc, xk⟩ := x
  simp only at ho ⊢
  rcases ho with rfl | rfl
  · simp [checkB, pairs, namesOf, In.get, checkStep, mayB, belowB] at h
    exact h.2
  · simp [checkB, pairs, namesOf, In.get, checkStep, mayB, belowB] at h
    exact h.2
theorem at_some (hc : p.codes[m]? = some c) (hx : c[n]? = some x) : atIn p m n = some x := by
  unfold atIn
  rw [if_pos ⟨by omega, by omega⟩, Int.toNat_natCast, Int.toNat_natCast, hc]
  exact hx
theorem at_next (h : checkW p = none) (hc : p.codes[m]? = some c) (hx : c[n]? = some x) : (atIn p m ((n : Int) + 1)).isSome = true ∨ ((atIn p m ((n : Int) + 1)).isSome = false ∧ (x.o = 10 ∨ x.o = 3)) := by
  have hn := (List.getElem?_eq_some_iff.1 hx).1
  by_cases hl : n + 1 < c.length
  · left
    rw [show (n : Int) + 1 = ((n + 1 : Nat) : Int) by omega, at_some hc (List.getElem?_eq_getElem hl)]; rfl
  · right
    refine ⟨?_, may_last h hc (by rw [show c.length - 1 = n by omega]; exact hx)⟩
    unfold atIn
    rw [if_pos ⟨by omega, by omega⟩, Int.toNat_natCast, hc]
    simp only [Option.bind_some]
    rw [List.getElem?_eq_none (by omega)]; rfl
theorem at_place (h : checkW p = none) (hc : p.codes[m]? = some c) (hx : c[n]? = some x) (ho : x.o = 3 ∨ x.o = 4) : (atIn p m x.k).isSome = true := by
  obtain ⟨h0, h1⟩ := may_place (may_ins h hc hx) ho
  obtain ⟨j, hj⟩ : ∃ j : Nat, x.k = (j : Int) := ⟨x.k.toNat, by omega⟩
  rw [hj, at_some hc (List.getElem?_eq_getElem (by omega))]; rfl
theorem at_first (h : checkW p = none) : (atIn p 0 0).isSome = true := by
  have h1 := may_some h
  have h2 := may_pos h (List.getElem?_eq_getElem h1)
  have := at_some (p := p) (m := 0) (n := 0) (List.getElem?_eq_getElem h1) (List.getElem?_eq_getElem h2)
  rw [show ((0 : Nat) : Int) = 0 from rfl] at this
  rw [this]; rfl
end
theorem atP_any {lo hi : Nat} {v1 v2 v3 : Value} {p : Prg} (w : World) (h : PrgAt lo hi w v1 v2 v3 p) (hs : Small p) (i k : Int) :
    Calls Try.prog 9 #[.agg #[v1, v2, v3], .int .i64 i, .int .i64 k] w fun e w' => ∃ y : In, e = .returned (.tuple #[.agg #[.int .u8 (y.o : Int), .int .i64 y.a, .int .i64 y.b, .int .i64 y.c, .int .i64 y.k], .bool (atIn p i k).isSome]) ∧ y = (atIn p i k).getD In.zero ∧ Below w.heap.size w w' :=
  (at_any w h hs i k).mono fun _ _ ⟨h1, h2⟩ => ⟨_, h1, rfl, h2⟩
end Go.Proofs.Ytbbgeopgigeioaa
