/-
  What a program that may be is.
-/
import Derived.Test.YtamkmmpockmpfaaGLong
namespace Go.Proofs.Ytamkmmpockmpfaa
open Go.RowKit

/-! ### What a program that may be is -/
theorem or_none {a b : Option Wr} (h : a.or b = none) : a = none ∧ b = none := Option.or_eq_none_iff.1 h
theorem wrongIf_none {b : Bool} {x : Wr} (h : wrongIf b x = none) : b = true := by cases b <;> first | rfl | cases h
theorem check_parts {p : Prg} (h : checkW p = none) : chansW p.caps = none ∧ sitesW p.caps.length p.sites = none ∧ codesW p.caps.length p.sites.length p.codes = none ∧ fallsW p.codes = none := by
  unfold checkW at h
  obtain ⟨h1, h⟩ := or_none h
  obtain ⟨h2, h⟩ := or_none h
  obtain ⟨h3, h4⟩ := or_none h
  exact ⟨h1, h2, h3, h4⟩
theorem check_zero {p : Prg} : (checkT p).2.2 = 0 ↔ checkW p = none := by
  unfold checkT
  cases h : checkW p with
  | none => simp
  | some x =>
    simp only [Option.getD_some, reduceCtorEq, iff_false]
    have key : ∀ {α : Type} {f : Nat → α → Option Wr} (l : List α) (n : Nat) (y : Wr), (∀ k x z, f k x = some z → z.2.2 ≠ 0) → firstI f n l = some y → y.2.2 ≠ 0 := by
      intro α f l
      induction l with
      | nil => intro n y _ h; cases h
      | cons a t ih =>
        intro n y hf h
        unfold firstI at h
        rcases Option.or_eq_some_iff.1 h with h | ⟨_, h⟩
        · exact hf _ _ _ h
        · exact ih _ _ hf h
    have kw : ∀ {b : Bool} {u z : Wr}, u.2.2 ≠ 0 → wrongIf b u = some z → z.2.2 ≠ 0 := by
      intro b u z hu hz
      cases b
      · simp [wrongIf] at hz; subst hz; exact hu
      · simp [wrongIf] at hz
    unfold checkW at h
    rcases Option.or_eq_some_iff.1 h with h | ⟨_, h⟩
    · unfold chansW at h
      rcases Option.or_eq_some_iff.1 h with h | ⟨_, h⟩
      · exact kw (by decide) h
      · exact key _ _ _ (fun k x z hz => kw (by simp) hz) h
    rcases Option.or_eq_some_iff.1 h with h | ⟨_, h⟩
    · unfold sitesW at h
      rcases Option.or_eq_some_iff.1 h with h | ⟨_, h⟩
      · exact kw (by decide) h
      · refine key _ _ _ (fun k x z hz => ?_) h
        unfold siteW at hz
        rcases Option.or_eq_some_iff.1 hz with hz | ⟨_, hz⟩
        · exact kw (by simp) hz
        · exact key _ _ _ (fun k x z hz => kw (by simp) hz) hz
    rcases Option.or_eq_some_iff.1 h with h | ⟨_, h⟩
    · unfold codesW at h
      rcases Option.or_eq_some_iff.1 h with h | ⟨_, h⟩
      · exact kw (by decide) h
      · refine key _ _ _ (fun k x z hz => ?_) h
        unfold codeW at hz
        rcases Option.or_eq_some_iff.1 hz with hz | ⟨_, hz⟩
        · exact kw (by simp) hz
        · exact key _ _ _ (fun k x z hz => kw (by simp) hz) hz
    · unfold fallsW at h
      exact key _ _ _ (fun k x z hz => by unfold fallW at hz; exact kw (by simp) hz) h
section
variable {p : Prg} {m n : Nat} {c : List In} {x : In}
theorem may_ins (h : checkW p = none) (hc : p.codes[m]? = some c) (hx : c[n]? = some x) : checkB x p.caps.length p.sites.length p.codes.length c.length = true := by
  obtain ⟨_, _, h3, _⟩ := check_parts h
  unfold codesW at h3
  have := firstI_none.1 (or_none h3).2 m c hc
  unfold codeW at this
  have := firstI_none.1 (or_none this).2 n x hx
  exact wrongIf_none this
theorem may_pos (h : checkW p = none) (hc : p.codes[m]? = some c) : 0 < c.length := codes_pos (check_parts h).2.2.1 c (List.mem_of_getElem? hc)
theorem may_some (h : checkW p = none) : 0 < p.codes.length := by
  obtain ⟨_, _, h3, _⟩ := check_parts h
  unfold codesW at h3
  have := wrongIf_none (or_none h3).1
  unfold withinB at this
  simp at this
  omega
theorem may_last (h : checkW p = none) (hc : p.codes[m]? = some c) (hx : c[c.length - 1]? = some x) : x.o = 10 ∨ x.o = 3 := by
  obtain ⟨_, _, _, h4⟩ := check_parts h
  have := firstI_none.1 h4 m c hc
  unfold fallW lastOp at this
  have := wrongIf_none this
  rw [hx] at this
  simpa using this
theorem may_place {a b d l : Int} (h : checkB x a b d l = true) (ho : x.o = 3 ∨ x.o = 4) : 0 ≤ x.k ∧ x.k < l := by
  obtain ⟨o, xa, xb, xc, xk⟩ := x
  simp only at ho ⊢
  rcases ho with rfl | rfl
  · simp [checkB, pairs, namesOf, In.get, checkStep, mayB, belowB] at h
    exact h.2
  · simp [checkB, pairs, namesOf, In.get, checkStep, mayB, belowB] at h
    exact h.2
end
theorem takeD {P : Program} {md : Region.Mode} {ops : Array Oper} {Q : Exit → Act → World → Prop} {S : World → Prop} {i : Nat} {d : Option Tmp} {v : Value} {fuel : Nat} {listed : Array Bool} {a : Act} {w : World} (hd : (ops[i]?).map Oper.dst = some d)
    (hs : Region.noSelect ops = true) (hf : Region.free md ops listed i = true) (hr : (Region.ready md ops listed).contains i = true)
    (hQ : ∀ c a w, Q (.panic c) (a.put d v) w → Q (.panic c) a w) (hy : ∀ oi, ops[i]? = some oi → YieldsIf P ops S oi v a) (hS : S w)
    (h : wpAnyH P md ops Q S fuel (listed.setIfInBounds i true) (a.put d v) w) : wpAnyH P md ops Q S (fuel + 1) listed a w := by
  cases ho : ops[i]? with
  | none => rw [ho] at hd; cases hd
  | some oi =>
    rw [ho] at hd
    simp only [Option.map_some, Option.some.injEq] at hd
    subst hd
    exact wpAnyH_take ho hs hf hr hQ (hy oi ho) hS h
theorem wpAnyH_cut {P : Program} {md : Region.Mode} {ops : Array Oper} {Q : Exit → Act → World → Prop} {S : World → Prop} {f f' : Nat} {l l' : Array Bool} {a0 : Act} {w0 : World} (Rel : Act → Act → World → Prop)
    (h1 : ∀ a w, Rel a0 a w → wpAnyH P md ops Q S f' l' a w) (h2 : (∀ a w, Rel a0 a w → wpAnyH P md ops Q S f' l' a w) → wpAnyH P md ops Q S f l a0 w0) : wpAnyH P md ops Q S f l a0 w0 := h2 h1
theorem bA {wf W : World} (h : Below wf.heap.size wf W) (o : Obj) : Below wf.heap.size wf (W.alloc o) := h.alloc h.size o
theorem blk_at {W : World} {t : TypeId} {cs : Array Value} {n : Nat} (hn : n = W.heap.size) : Blk (W.alloc (.cells cs t)) n t cs := by subst hn; exact blk_new W t cs
theorem Blk.on {W W' : World} {B : Nat} {t : TypeId} {cs : Array Value} (h : Blk W B t cs) (hb : Below W.heap.size W W') : Blk W' B t cs := h.later hb h.lt
end Go.Proofs.Ytamkmmpockmpfaa
