/-
  Numbers that do not go round; picks, and how long anybody is without one; pure.
-/
import Derived.Lib.Hide
import Derived.Test.YtfbcaicfppommaaRows
import Derived.WalkKit
import Derived.WalkLawsBesides
import Derived.WalkSpells
import Derived.WalkArith
import Derived.Outline
import Derived.Below
import Derived.BigQuiet
import Derived.OwnWalk
import Derived.StillTailTactics
import Derived.Maps.AppendAt
import Derived.Laws.ShiftsVarLaws
namespace Go.Proofs.Ytfbcaicfppommaa
open Go.RowKit

/-! ### Numbers of 2^62 at most -/
def lid (n : Nat) : Nat := min n 4611686018427387904
theorem lid_le (n : Nat) : lid n ≤ 4611686018427387904 := Nat.min_le_right _ _
theorem lid_of_le {n : Nat} (h : n ≤ 4611686018427387904) : lid n = n := Nat.min_eq_left h
theorem lid_of_ge {n : Nat} (h : 4611686018427387904 ≤ n) : lid n = 4611686018427387904 := Nat.min_eq_right h
theorem lid_mono {a b : Nat} (h : a ≤ b) : lid a ≤ lid b := by unfold lid; omega
theorem lid_add (a b : Nat) : lid (lid a + b) = lid (a + b) := by unfold lid; omega
theorem lid_add' (a b : Nat) : lid (a + lid b) = lid (a + b) := by unfold lid; omega
theorem lid_mul (a b : Nat) : lid (lid a * b) = lid (a * b) := by
  rcases Nat.eq_zero_or_pos b with rfl | hb
  · rfl
  by_cases h : a ≤ 4611686018427387904
  · rw [lid_of_le h]
  · rw [lid_of_ge (n := a) (by omega), lid_of_ge (Nat.le_mul_of_pos_right _ hb), lid_of_ge]
    exact Nat.le_trans (by omega) (Nat.le_mul_of_pos_right a hb)
theorem lid_mul' (a b : Nat) : lid (a * lid b) = lid (a * b) := by rw [Nat.mul_comm, lid_mul, Nat.mul_comm]
theorem lid_lid (a : Nat) : lid (lid a) = lid a := lid_of_le (lid_le a)

def sumL : List Nat → Nat
  | [] => 0
  | x :: t => x + sumL t
def mulL : List Nat → Nat
  | [] => 1
  | x :: t => x * mulL t
theorem sumL_app (a b : List Nat) : sumL (a ++ b) = sumL a + sumL b := by
  induction a with
  | nil => simp [sumL]
  | cons x t ih => simp only [List.cons_append, sumL, ih]; omega
theorem mulL_app (a b : List Nat) : mulL (a ++ b) = mulL a * mulL b := by
  induction a with
  | nil => simp [mulL]
  | cons x t ih => simp only [List.cons_append, mulL, ih, Nat.mul_assoc]
theorem take_next (xs : List Nat) (k : Nat) (hk : k < xs.length) : xs.take (k + 1) = xs.take k ++ [xs[k]?.getD 0] := by
  rw [List.take_add_one, List.getElem?_eq_getElem hk]; rfl
theorem sumL_next (xs : List Nat) (k : Nat) (hk : k < xs.length) : sumL (xs.take (k + 1)) = sumL (xs.take k) + xs[k]?.getD 0 := by
  rw [take_next xs k hk, sumL_app]; simp [sumL]
theorem mulL_next (xs : List Nat) (k : Nat) (hk : k < xs.length) : mulL (xs.take (k + 1)) = mulL (xs.take k) * xs[k]?.getD 0 := by
  rw [take_next xs k hk, mulL_app]; simp [mulL]
theorem sumL_take_le (xs : List Nat) (k : Nat) : sumL (xs.take k) ≤ sumL xs := by
  have h := sumL_app (xs.take k) (xs.drop k)
  rw [List.take_append_drop] at h; omega

/-! ### What a size's numbers are, without the lid -/
def hN (t n : Nat) : Nat := 8 * t * n + 8 * n + 40
/-- What k channels, the last ones, come to: L and 2 of each. -/
def beh (p h : Nat) : Nat → Nat
  | 0 => 0
  | k + 1 => beh p h k + p * (h + beh p h k) + 2
/-- L of the channel that has k behind it. -/
def lkN (p h k : Nat) : Nat := p * (h + beh p h k)
def ofN (w p t c n q : Nat) : Nat := w * (t + 1) * ((q + 2) * (beh p (hN t n) c + hN t n + (t + 2) * (4 * p + 4)) + 4 * (4 * p + 4))
theorem hN_le {t n : Nat} (ht : t ≤ 32) (hn : n ≤ 6) : hN t n ≤ 1624 := by
  unfold hN
  have : 8 * t * n ≤ 256 * 6 := Nat.mul_le_mul (by omega) hn
  omega
theorem hN_mono {t n t' n' : Nat} (ht : t ≤ t') (hn : n ≤ n') : hN t n ≤ hN t' n' := by
  unfold hN
  have : 8 * t * n ≤ 8 * t' * n' := Nat.mul_le_mul (by omega) hn
  omega
theorem beh_succ (p h k : Nat) : beh p h (k + 1) = beh p h k + lkN p h k + 2 := rfl
theorem beh_up (p h k : Nat) : beh p h k ≤ beh p h (k + 1) := by rw [beh_succ]; omega
theorem beh_mono {p h k p' h' k' : Nat} (hp : p ≤ p') (hh : h ≤ h') (hk : k ≤ k') : beh p h k ≤ beh p' h' k' := by
  have h1 : ∀ k, beh p h k ≤ beh p' h' k := by
    intro k
    induction k with
    | zero => exact Nat.le_refl _
    | succ k ih =>
      rw [beh_succ, beh_succ]
      have : lkN p h k ≤ lkN p' h' k := Nat.mul_le_mul hp (by omega)
      omega
  refine Nat.le_trans (h1 k) ?_
  induction hk with
  | refl => exact Nat.le_refl _
  | step _ ih => exact Nat.le_trans ih (beh_up _ _ _)
theorem lkN_mono {p h k k' : Nat} (hk : k ≤ k') : lkN p h k ≤ lkN p h k' := Nat.mul_le_mul (Nat.le_refl _) (by have := beh_mono (Nat.le_refl p) (Nat.le_refl h) hk; omega)
theorem ofN_mono {w p t c n q w' p' t' c' n' q' : Nat} (h1 : w ≤ w') (h2 : p ≤ p') (h3 : t ≤ t') (h4 : c ≤ c') (h5 : n ≤ n') (h6 : q ≤ q') : ofN w p t c n q ≤ ofN w' p' t' c' n' q' := by
  unfold ofN
  have a := hN_mono h3 h5
  have b := beh_mono h2 a h4
  have d : (t + 2) * (4 * p + 4) ≤ (t' + 2) * (4 * p' + 4) := Nat.mul_le_mul (by omega) (by omega)
  have e : (q + 2) * (beh p (hN t n) c + hN t n + (t + 2) * (4 * p + 4)) ≤ (q' + 2) * (beh p' (hN t' n') c' + hN t' n' + (t' + 2) * (4 * p' + 4)) := Nat.mul_le_mul (by omega) (by omega)
  exact Nat.mul_le_mul (Nat.mul_le_mul h1 (by omega)) (by omega)
theorem ofN_pos {w p t c n q : Nat} (h1 : 1 ≤ w) : 1 ≤ ofN w p t c n q := by
  unfold ofN
  exact Nat.mul_pos (Nat.mul_pos h1 (by omega)) (by omega)

/-! ### Picks -/
/-- Whose picks they are. -/
def wk (s : ByteArray) (p : Nat) : List Nat := s.data.toList.map fun b => b.toNat % p
theorem wk_len (s : ByteArray) (p : Nat) : (wk s p).length = s.size := by simp [wk]
def hasK (ws : List Nat) (k a n : Nat) : Bool := (List.range n).any fun j => decide (ws[a + j]? = some k)
def allK (ws : List Nat) (p a n : Nat) : Bool := (List.range p).all fun k => hasK ws k a n
/-- Each of p is in each w of them, one behind the other. -/
def fairB (ws : List Nat) (p w : Nat) : Bool := (List.range (ws.length + 1 - w)).all fun f => allK ws p f w
def gapD (ws : List Nat) (p : Nat) : Nat → Nat
  | 0 => 0
  | m + 1 => if fairB ws p (m + 1) then gapD ws p m else m + 1
/-- How many are at most without one of p. -/
def gap (ws : List Nat) (p : Nat) : Nat := gapD ws p ws.length
/-- None of them, from a up to b, is k's. -/
def Free (ws : List Nat) (k a b : Nat) : Prop := ∀ i, a ≤ i → i < b → ws[i]? ≠ some k

theorem hasK_iff {ws : List Nat} {k a n : Nat} : hasK ws k a n = true ↔ ∃ j, j < n ∧ ws[a + j]? = some k := by simp [hasK]
theorem hasK_not {ws : List Nat} {k a n : Nat} : hasK ws k a n = false ↔ Free ws k a (a + n) := by
  rw [Bool.eq_false_iff, ne_eq, hasK_iff]
  constructor
  · intro h i h1 h2 e
    exact h ⟨i - a, by omega, by rw [show a + (i - a) = i by omega]; exact e⟩
  · rintro h ⟨j, hj, e⟩
    exact h (a + j) (by omega) (by omega) e
theorem hasK_zero (ws : List Nat) (k a : Nat) : hasK ws k a 0 = false := rfl
theorem hasK_next (ws : List Nat) (k a n : Nat) : hasK ws k a (n + 1) = (hasK ws k a n || decide (ws[a + n]? = some k)) := by
  simp [hasK, List.range_succ]
theorem fairB_iff {ws : List Nat} {p w : Nat} : fairB ws p w = true ↔ ∀ f k, f + w ≤ ws.length → k < p → hasK ws k f w = true := by
  simp only [fairB, allK, List.all_eq_true, List.mem_range]
  constructor
  · intro h f k h1 h2; exact h f (by omega) k h2
  · intro h f h1 k h2; exact h f k (by omega) h2
theorem fairB_not {ws : List Nat} {p w : Nat} : fairB ws p w = false ↔ ∃ f k, f + w ≤ ws.length ∧ k < p ∧ Free ws k f (f + w) := by
  rw [Bool.eq_false_iff, ne_eq, fairB_iff]
  constructor
  · intro h
    apply Classical.byContradiction
    intro hn
    apply h
    intro f k h1 h2
    apply Classical.byContradiction
    intro h3
    exact hn ⟨f, k, h1, h2, hasK_not.1 (Bool.eq_false_iff.2 h3)⟩
  · rintro ⟨f, k, h1, h2, h3⟩ h
    have h4 := hasK_not.2 h3
    rw [h f k h1 h2] at h4
    cases h4
theorem Free.less {ws : List Nat} {k a b a' b' : Nat} (h : Free ws k a b) (h1 : a ≤ a') (h2 : b' ≤ b) : Free ws k a' b' := fun i h3 h4 => h i (by omega) (by omega)
theorem fairB_mono {ws : List Nat} {p w w' : Nat} (h : fairB ws p w = true) (hw : w ≤ w') : fairB ws p w' = true := by
  apply Classical.byContradiction
  intro hn
  obtain ⟨f, k, h1, h2, h3⟩ := fairB_not.1 (Bool.eq_false_iff.2 hn)
  have h4 := hasK_not.2 (h3.less (Nat.le_refl f) (by omega : f + w ≤ f + w'))
  rw [fairB_iff.1 h f k (by omega) h2] at h4
  cases h4
theorem fairB_long {ws : List Nat} {p w : Nat} (h : ws.length < w) : fairB ws p w = true := fairB_iff.2 fun f k h1 _ => by omega
theorem fairB_zero {ws : List Nat} {p : Nat} (hp : 0 < p) : fairB ws p 0 = false := fairB_not.2 ⟨0, 0, Nat.zero_le _, hp, fun i h1 h2 => by omega⟩
theorem gapD_le (ws : List Nat) (p m : Nat) : gapD ws p m ≤ m := by
  induction m with
  | zero => exact Nat.le_refl _
  | succ m ih => unfold gapD; split <;> omega
theorem gapD_not {ws : List Nat} {p : Nat} (hp : 0 < p) (m : Nat) : fairB ws p (gapD ws p m) = false := by
  induction m with
  | zero => exact fairB_zero hp
  | succ m ih =>
    unfold gapD
    split
    · exact ih
    · rename_i h; exact Bool.eq_false_iff.2 h
theorem gapD_most {ws : List Nat} {p : Nat} (m : Nat) {v : Nat} (hv : v ≤ m) (h : fairB ws p v = false) : v ≤ gapD ws p m := by
  induction m with
  | zero => omega
  | succ m ih =>
    unfold gapD
    split
    · rename_i h1
      by_cases e : v = m + 1
      · subst e; rw [h1] at h; cases h
      · exact ih (by omega)
    · exact hv
theorem gap_le (ws : List Nat) (p : Nat) : gap ws p ≤ ws.length := gapD_le _ _ _
theorem fair_gap {ws : List Nat} {p : Nat} (hp : 0 < p) (w : Nat) : fairB ws p w = decide (gap ws p < w) := by
  by_cases h : gap ws p < w
  · rw [decide_eq_true h]
    by_cases hl : ws.length < w
    · exact fairB_long hl
    · apply Classical.byContradiction
      intro hn
      have := gapD_most ws.length (by omega : w ≤ ws.length) (Bool.eq_false_iff.2 hn)
      unfold gap at h; omega
  · rw [decide_eq_false h, Bool.eq_false_iff]
    intro hf
    have h1 := fairB_mono hf (by omega : w ≤ gap ws p)
    have h2 := gapD_not (ws := ws) hp ws.length
    unfold gap at h1
    rw [h1] at h2; cases h2
theorem gap_eq {ws : List Nat} {p v : Nat} (hp : 0 < p) (h1 : fairB ws p v = false) (h2 : fairB ws p (v + 1) = true) : gap ws p = v := by
  rw [fair_gap hp] at h1 h2
  have h1 := of_decide_eq_false h1
  have h2 := of_decide_eq_true h2
  omega

/-! ### Where each one was last -/
def upN (g : Nat → Nat) (i x : Nat) : Nat → Nat := fun k => if k = i then x else g k
theorem upN_same (g : Nat → Nat) (i x : Nat) : upN g i x i = x := by simp [upN]
theorem upN_ne {g : Nat → Nat} {i k x : Nat} (h : k ≠ i) : upN g i x k = g k := by simp [upN, h]
/-- Of i picks: up to where each one was last, and how many there are at most without one, but those behind its last one. -/
structure Seen (ws : List Nat) (p i most : Nat) (last : Nat → Nat) : Prop where
  up : ∀ k, k < p → ∀ a b, a ≤ b → b ≤ i → Free ws k a b → b - a ≤ max most (i - last k)
  le : ∀ k, last k ≤ i
  is : ∀ k, last k = 0 ∨ ws[last k - 1]? = some k
  free : ∀ k, Free ws k (last k) i
  low : ∃ k, k < p ∧ ∃ a, a + most ≤ i ∧ Free ws k a (a + most)
theorem seen_none (ws : List Nat) {p : Nat} (hp : 0 < p) : Seen ws p 0 0 (fun _ => 0) :=
  ⟨fun k _ a b _ _ _ => by omega, fun _ => Nat.le_refl _, fun _ => .inl rfl, fun k i h1 h2 => by omega, 0, hp, 0, Nat.le_refl _, fun i h1 h2 => by omega⟩
theorem Seen.step {ws : List Nat} {p i most : Nat} {last : Nat → Nat} (h : Seen ws p i most last) {c : Nat} (hc : ws[i]? = some c) (hcp : c < p) : Seen ws p (i + 1) (max most (i - last c)) (upN last c (i + 1)) := by
  refine ⟨fun k hk a b hab hb hf => ?_, fun k => ?_, fun k => ?_, fun k j h1 h2 => ?_, ?_⟩
  · by_cases e : k = c
    · subst e
      rw [upN_same]
      by_cases hbi : b ≤ i
      · have := h.up k hk a b hab hbi hf; omega
      · by_cases hai : a ≤ i
        · exact absurd hc (hf i hai (by omega))
        · omega
    · rw [upN_ne e]
      by_cases hbi : b ≤ i
      · have := h.up k hk a b hab hbi hf; omega
      · have hl : last k ≤ a ∨ a = b := by
          apply Classical.byContradiction
          intro hn
          rcases h.is k with h0 | h0
          · omega
          · have := h.le k
            exact hf (last k - 1) (by omega) (by omega) h0
        rcases hl with hl | hl <;> omega
  · have := h.le k
    by_cases e : k = c
    · subst e; rw [upN_same]; omega
    · rw [upN_ne e]; omega
  · by_cases e : k = c
    · subst e; rw [upN_same]; exact .inr hc
    · rw [upN_ne e]; exact h.is k
  · by_cases e : k = c
    · subst e; rw [upN_same] at h1; omega
    · rw [upN_ne e] at h1
      by_cases ej : j = i
      · subst ej; rw [hc]; intro e'; cases e'; exact e rfl
      · exact h.free k j h1 (by omega)
  · by_cases hm : most ≤ i - last c
    · rw [Nat.max_eq_right hm]
      have := h.le c
      exact ⟨c, hcp, last c, by omega, (h.free c).less (Nat.le_refl _) (by omega)⟩
    · rw [Nat.max_eq_left (by omega)]
      obtain ⟨k, hk, a, ha, hf⟩ := h.low
      exact ⟨k, hk, a, by omega, hf⟩
theorem Seen.rest {ws : List Nat} {p i most : Nat} {last : Nat → Nat} (h : Seen ws p i most last) {k : Nat} (hk : k < p) : Seen ws p i (max most (i - last k)) last := by
  refine ⟨fun j hj a b hab hb hf => ?_, h.le, h.is, h.free, ?_⟩
  · have := h.up j hj a b hab hb hf; omega
  · by_cases hm : most ≤ i - last k
    · rw [Nat.max_eq_right hm]
      have := h.le k
      exact ⟨k, hk, last k, by omega, (h.free k).less (Nat.le_refl _) (by omega)⟩
    · rw [Nat.max_eq_left (by omega)]; exact h.low
theorem Seen.gap {ws : List Nat} {p most : Nat} {last : Nat → Nat} (hp : 0 < p) (h : Seen ws p ws.length most last) (hr : ∀ k, k < p → ws.length - last k ≤ most) : gap ws p = most := by
  refine gap_eq hp ?_ ?_
  · obtain ⟨k, hk, a, ha, hf⟩ := h.low
    exact fairB_not.2 ⟨a, k, ha, hk, hf⟩
  · apply Classical.byContradiction
    intro hn
    obtain ⟨f, k, h1, h2, h3⟩ := fairB_not.1 (Bool.eq_false_iff.2 hn)
    have := h.up k h2 f (f + (most + 1)) (by omega) h1 h3
    have := hr k h2
    omega

/-! ### Picks in turn; a part of picks -/
def turnL (p n : Nat) : List UInt8 := (List.range n).map fun i => UInt8.ofNat (i % p)
theorem turnL_len (p n : Nat) : (turnL p n).length = n := by simp [turnL]
theorem turn_wk {p n i : Nat} (h1 : 1 ≤ p) (h2 : p ≤ 255) (hi : i < n) : (wk ⟨(turnL p n).toArray⟩ p)[i]? = some (i % p) := by
  have : i % p < p := Nat.mod_lt _ h1
  simp only [wk, turnL, List.map_map, List.getElem?_map]
  rw [List.getElem?_range hi]
  simp only [Option.map_some, Function.comp, Option.some.injEq]
  rw [UInt8.toNat_ofNat', Nat.mod_eq_of_lt (by omega : i % p < 2 ^ 8), Nat.mod_mod]
theorem turn_len (p n : Nat) : (wk ⟨(turnL p n).toArray⟩ p).length = n := by simp [wk, turnL]
/-- Picks in turn are fair. -/
theorem turn_fair {p n : Nat} (h1 : 1 ≤ p) (h2 : p ≤ 255) : fairB (wk ⟨(turnL p n).toArray⟩ p) p p = true := by
  refine fairB_iff.2 fun f k hf hk => hasK_iff.2 ?_
  rw [turn_len] at hf
  have hm : f % p < p := Nat.mod_lt _ h1
  have hd := Nat.div_add_mod f p
  by_cases e : f % p ≤ k
  · refine ⟨k - f % p, by omega, ?_⟩
    rw [turn_wk h1 h2 (by omega)]
    have : f + (k - f % p) = p * (f / p) + k := by omega
    rw [this, Nat.mul_add_mod, Nat.mod_eq_of_lt hk]
  · refine ⟨p + k - f % p, by omega, ?_⟩
    rw [turn_wk h1 h2 (by omega)]
    have : f + (p + k - f % p) = p * (f / p + 1) + k := by rw [Nat.mul_add]; omega
    rw [this, Nat.mul_add_mod, Nat.mod_eq_of_lt hk]
theorem turn_gap {p n : Nat} (h1 : 1 ≤ p) (h2 : p ≤ 255) : gap (wk ⟨(turnL p n).toArray⟩ p) p < p := by
  have h := turn_fair (n := n) h1 h2
  rw [fair_gap h1] at h
  exact of_decide_eq_true h
/-- What is fair is so of any part. -/
theorem gap_part {ws vs : List Nat} {p : Nat} (hp : 0 < p) (a : Nat) (h : ∀ j, j < vs.length → vs[j]? = ws[a + j]?) (hl : vs = [] ∨ a + vs.length ≤ ws.length) : gap vs p ≤ gap ws p := by
  have hn := gapD_not (ws := vs) hp vs.length
  obtain ⟨f, k, h1, h2, h3⟩ := fairB_not.1 hn
  apply Classical.byContradiction
  intro hg
  have hf : fairB ws p (gap vs p) = true := by rw [fair_gap hp]; exact decide_eq_true (by omega)
  have h0 : 0 < gap vs p := by omega
  have hle := gap_le vs p
  change f + gap vs p ≤ vs.length at h1
  change Free vs k f (f + gap vs p) at h3
  rcases hl with rfl | hl
  · simp at hle; omega
  obtain ⟨j, hj, e⟩ := hasK_iff.1 (fairB_iff.1 hf (a + f) k (by omega) h2)
  refine h3 (f + j) (by omega) (by omega) ?_
  rw [h (f + j) (by omega), ← e, Nat.add_assoc]
end Go.Proofs.Ytfbcaicfppommaa
