/-
  Logs: what is put, what is told of them; pure.
-/
import Derived.Test.YtnngkpggejmdkaaERow
namespace Go.Proofs.Ytnngkpggejmdkaa

def endV (xs : List En) : Int := match xs.getLast? with
  | some x => x.a
  | none => -1
def endedB (xs : List En) : Bool := match xs.getLast? with
  | some x => x.k == 11
  | none => false
/-- What Put answers. -/
def putE (xs : List En) (x : En) : Int := if okB x = true ∧ endV xs ≤ x.a then (if endedB xs = true then 6 else 0) else 2
def putX (xs : List En) (x : En) : List En := if putE xs x = 0 then xs ++ [x] else xs
/-- Each was put. -/
def Good (xs : List En) : Prop := ∀ i x, xs[i]? = some x → putE (xs.take i) x = 0

theorem putE_cases (xs : List En) (x : En) : putE xs x = 0 ∨ putE xs x = 2 ∨ putE xs x = 6 := by
  unfold putE; split
  · split <;> simp
  · simp
theorem putE_zero {xs : List En} {x : En} (h : putE xs x = 0) : okB x = true ∧ endV xs ≤ x.a ∧ endedB xs = false := by
  unfold putE at h
  split at h
  · rename_i h1
    split at h
    · cases h
    · rename_i h2; exact ⟨h1.1, h1.2, by simpa using h2⟩
  · cases h
theorem putE_bad {xs : List En} {x : En} (h : ¬ (okB x = true ∧ endV xs ≤ x.a)) : putE xs x = 2 := by unfold putE; rw [if_neg h]
theorem putE_ended {xs : List En} {x : En} (h : endedB xs = true) : putE xs x ≠ 0 := fun e => by
  have := (putE_zero e).2.2; rw [h] at this; cases this
theorem putE_full {xs : List En} {x : En} (h : okB x = true ∧ endV xs ≤ x.a) (h2 : endedB xs = true) : putE xs x = 6 := by unfold putE; rw [if_pos h, if_pos h2]
theorem putE_ok {xs : List En} {x : En} (h : okB x = true ∧ endV xs ≤ x.a) (h2 : endedB xs = false) : putE xs x = 0 := by unfold putE; rw [if_pos h, if_neg (by rw [h2]; decide)]
theorem putX_ok {xs : List En} {x : En} (h : putE xs x = 0) : putX xs x = xs ++ [x] := by unfold putX; rw [if_pos h]
theorem putX_not {xs : List En} {x : En} (h : putE xs x ≠ 0) : putX xs x = xs := by unfold putX; rw [if_neg h]
theorem putX_len (xs : List En) (x : En) : (putX xs x).length ≤ xs.length + 1 := by unfold putX; split <;> simp

theorem good_nil : Good [] := fun i x h => by simp at h
theorem good_put {xs : List En} (h : Good xs) (x : En) : Good (putX xs x) := by
  by_cases h0 : putE xs x = 0
  · rw [putX_ok h0]
    intro i y hy
    by_cases hi : i < xs.length
    · rw [List.getElem?_append_left hi] at hy
      rw [List.take_append_of_le_length (by omega)]
      exact h i y hy
    · rw [List.getElem?_append_right (by omega)] at hy
      have hi2 : i = xs.length := by
        have := (List.getElem?_eq_some_iff.1 hy).1
        simp at this; omega
      subst hi2
      simp only [Nat.sub_self, List.getElem?_cons_zero, Option.some.injEq] at hy
      subst hy
      rw [List.take_append_of_le_length (Nat.le_refl _), List.take_length]
      exact h0
  · rw [putX_not h0]; exact h
theorem good_okB {xs : List En} (h : Good xs) {i : Nat} {x : En} (hi : xs[i]? = some x) : okB x = true := (putE_zero (h i x hi)).1
theorem last_take {xs : List En} {i : Nat} {y : En} (hy : xs[i]? = some y) : (xs.take (i + 1)).getLast? = some y := by
  rw [take_snocE xs hy]; simp
theorem good_rise {xs : List En} (h : Good xs) {i : Nat} {x y : En} (hy : xs[i]? = some y) (hx : xs[i + 1]? = some x) : y.a ≤ x.a := by
  have h1 := (putE_zero (h (i + 1) x hx)).2.1
  unfold endV at h1
  rw [last_take hy] at h1
  exact h1
theorem good_end {xs : List En} (h : Good xs) {i : Nat} {y x : En} (hy : xs[i]? = some y) (hx : xs[i + 1]? = some x) : y.k ≠ 11 := by
  have h1 := (putE_zero (h (i + 1) x hx)).2.2
  unfold endedB at h1
  rw [last_take hy] at h1
  simpa using h1
/-- What is no last one is no fault. -/
theorem good_pair {xs : List En} (h : Good xs) : xs.Pairwise fun a _ => a.k ≠ 11 := by
  rw [List.pairwise_iff_getElem]
  intro i j hi hj hij
  exact good_end h (List.getElem?_eq_getElem hi) (List.getElem?_eq_getElem (by omega : i + 1 < xs.length))
theorem some_last {xs : List En} (h : Good xs) (P : En → Bool) {i : Nat} {x : En} (hi : (xs.filter P)[i]? = some x) (hk : x.k = 11) : i + 1 = (xs.filter P).length := by
  have hp := (good_pair h).filter P
  rw [List.pairwise_iff_getElem] at hp
  obtain ⟨h1, h2⟩ := List.getElem?_eq_some_iff.1 hi
  by_cases hl : i + 1 < (xs.filter P).length
  · exact absurd (by rw [h2]; exact hk) (hp i (i + 1) h1 hl (by omega))
  · omega
theorem okB_at {x : En} (h : okB x = true) : 0 ≤ x.a := by
  unfold okB at h
  simp only [Bool.and_eq_true, decide_eq_true_eq] at h
  exact h.2.1
theorem endV_b {xs : List En} (h : ∀ x ∈ xs, x.ok) : I64b (endV xs) := by
  unfold endV
  cases e : xs.getLast? with
  | none => unfold I64b; simp
  | some x => exact (h x (List.mem_of_getLast? e)).a
theorem putX_mem {xs : List En} {x : En} (h : ∀ y ∈ xs, y.ok) (hx : x.ok) : ∀ y ∈ putX xs x, y.ok := by
  unfold putX; split
  · intro y hy
    rcases List.mem_append.1 hy with hy | hy
    · exact h y hy
    · rw [List.mem_singleton.1 hy]; exact hx
  · exact h

/-! ### What is told -/
def isCom (x : En) : Bool := commitB x.k
def isOf (t : Int) (x : En) : Bool := (x.t == t && x.k != 26 || x.p == t && (x.k == 3 || (x.k == 4 || (x.k == 6 || (x.k == 9 || x.k == 11))))) && t != -1
def isKind (ks : List Nat) (x : En) : Bool := ks.contains x.k
def isIn (f t : Int) (x : En) : Bool := decide (f ≤ x.a) && decide (x.a < t)
def lastsN (xs : List En) : Nat := xs.countP fun x => x.a == 9223372036854775807

theorem filt_take {xs : List En} (P : En → Bool) {j : Nat} {x : En} (hx : xs[j]? = some x) : (xs.take (j + 1)).filter P = (xs.take j).filter P ++ (if P x = true then [x] else []) := by
  rw [take_snocE xs hx, List.filter_append]
  congr 1
  by_cases h : P x = true <;> simp [h]
theorem filt_pre {xs : List En} (P : En → Bool) (j : Nat) : (xs.take j).filter P <+: xs.filter P := by
  conv => rhs; rw [← List.take_append_drop j xs, List.filter_append]
  exact List.prefix_append _ _
theorem filt_len {xs : List En} (P : En → Bool) : (xs.filter P).length ≤ xs.length := List.length_filter_le _ _
theorem sub_filt (xs : List En) (P : En → Bool) : (xs.filter P).isSublist xs = true := List.isSublist_iff_sublist.2 List.filter_sublist
theorem com_sum (xs : List En) : (xs.filter isCom).length + xs.countP (fun x => !isCom x) = xs.length := by
  induction xs with
  | nil => rfl
  | cons x t ih =>
    by_cases h : isCom x = true
    · simp [h]; omega
    · simp [h]; omega
theorem between_sum (p : Int) (xs : List En) (h : ∀ x ∈ xs, 0 ≤ x.a ∧ x.a ≤ 9223372036854775807) :
    (xs.filter (isIn 0 p)).length + (xs.filter (isIn (max p 0) 9223372036854775807)).length + lastsN xs = xs.length ∨ ¬ (p ≤ 9223372036854775807) := by
  by_cases hp : p ≤ 9223372036854775807
  · left
    induction xs with
    | nil => rfl
    | cons x t ih =>
      have hx := h x (by simp)
      have ih := ih (fun y hy => h y (by simp [hy]))
      unfold lastsN at ih ⊢
      by_cases h1 : x.a < p
      · have e1 : isIn 0 p x = true := by simp [isIn]; omega
        have e2 : isIn (max p 0) 9223372036854775807 x = false := by simp [isIn]; omega
        have e3 : (x.a == 9223372036854775807) = false := by simp; omega
        rw [List.filter_cons_of_pos (by rw [e1]), List.filter_cons_of_neg (by rw [e2]; decide), List.countP_cons_of_neg (by rw [e3]; decide), List.length_cons, List.length_cons]
        omega
      · have e1 : isIn 0 p x = false := by simp [isIn]; omega
        by_cases h2 : x.a = 9223372036854775807
        · have e2 : isIn (max p 0) 9223372036854775807 x = false := by simp [isIn]; omega
          have e3 : (x.a == 9223372036854775807) = true := by simp; omega
          rw [List.filter_cons_of_neg (by rw [e1]; decide), List.filter_cons_of_neg (by rw [e2]; decide), List.countP_cons_of_pos (by rw [e3]), List.length_cons]
          omega
        · have e2 : isIn (max p 0) 9223372036854775807 x = true := by simp [isIn]; omega
          have e3 : (x.a == 9223372036854775807) = false := by simp; omega
          rw [List.filter_cons_of_neg (by rw [e1]; decide), List.filter_cons_of_pos (by rw [e2]), List.countP_cons_of_neg (by rw [e3]; decide), List.length_cons, List.length_cons]
          omega
  · exact .inr hp

/-! ### From behind -/
def backF (xs : List En) : List (Fin xs.length) := List.ofFn fun j : Fin xs.length => ⟨xs.length - 1 - j.val, by omega⟩
theorem backF_len (xs : List En) : (backF xs).length = xs.length := by simp [backF]
theorem backF_at {xs : List En} {j : Nat} (h : j < xs.length) : (backF xs)[j]? = some ⟨xs.length - 1 - j, by omega⟩ := by
  unfold backF
  rw [List.getElem?_ofFn, dif_pos h]
theorem backF_take {xs : List En} {j : Nat} (h : j < xs.length) : (backF xs).take (j + 1) = (backF xs).take j ++ [⟨xs.length - 1 - j, by omega⟩] := by
  rw [List.take_add_one, backF_at h]; rfl
/-- The last one that is meant: its place, it, and whether there is one. -/
def lastV (P : En → Bool) (xs : List En) : Int × En × Bool := match (backF xs).find? (fun i => P xs[i]) with
  | some i => ((i.val : Int), xs[i], true)
  | none => (-1, En.zero, false)
/-- Each is meant. -/
def allE (_ : En) : Bool := true
theorem filt_all (xs : List En) : xs.filter allE = xs := List.filter_eq_self.2 (fun _ _ => rfl)
theorem last_all (xs : List En) : (lastV allE xs).2.2 = !xs.isEmpty ∧ (xs ≠ [] → (lastV allE xs).2.1.a = endV xs) ∧ ((lastV allE xs).2.1.k == 11) = endedB xs := by
  have h : (backF xs).find? (fun i => allE xs[i]) = (backF xs).head? := by cases backF xs <;> rfl
  unfold lastV endV endedB
  rw [h, List.head?_eq_getElem?]
  by_cases h0 : 0 < xs.length
  · rw [backF_at h0, List.getLast?_eq_getElem?, List.getElem?_eq_getElem (by omega)]
    refine ⟨?_, fun _ => rfl, rfl⟩
    cases xs with
    | nil => simp at h0
    | cons y t => rfl
  · obtain rfl : xs = [] := List.length_eq_zero_iff.1 (by omega)
    exact ⟨rfl, fun h => absurd rfl h, rfl⟩
theorem last_found {P : En → Bool} {xs : List En} {q : List (Fin xs.length)} {i : Fin xs.length} (h : q ++ [i] <+: backF xs) (hq : ∀ p ∈ q, P xs[p] = false) (hi : P xs[i] = true) : lastV P xs = ((i.val : Int), xs[i], true) := by
  obtain ⟨r, hr⟩ := h
  have hf : (backF xs).find? (fun i => P xs[i]) = some i := by
    rw [← hr, List.append_assoc, List.find?_append, List.find?_eq_none.2 (fun p hp => by rw [hq p hp]; decide)]
    simp only [Option.none_or, List.cons_append, List.nil_append]
    exact List.find?_cons_of_pos (p := fun i : Fin xs.length => P xs[i]) hi
  unfold lastV
  rw [hf]
theorem last_none_of {P : En → Bool} {xs : List En} (hq : ∀ p ∈ backF xs, P xs[p] = false) : lastV P xs = (-1, En.zero, false) := by
  have hf : (backF xs).find? (fun i => P xs[i]) = none := List.find?_eq_none.2 (fun p hp => by rw [hq p hp]; decide)
  unfold lastV
  rw [hf]
end Go.Proofs.Ytnngkpggejmdkaa
