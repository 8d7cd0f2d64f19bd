/-
  Those who draw, wait for, and have one lock, in turn: pure.
-/
import Derived.Test.YtednclgfgekgbaaTPair
namespace Go.Proofs.Ytednclgfgekgbaa
open Go.RowKit

def upd (g : Nat → Nat) (n x : Nat) : Nat → Nat := fun m => if m = n then x else g m
theorem upd_same (g : Nat → Nat) (n x : Nat) : upd g n x n = x := by simp [upd]
theorem upd_ne (g : Nat → Nat) {n m : Nat} (x : Nat) (h : m ≠ n) : upd g n x m = g m := by simp [upd, h]

theorem upd_id (g : Nat → Nat) (n : Nat) : upd g n (g n) = g := by
  funext m; unfold upd; split
  · rename_i h; rw [h]
  · rfl
theorem take_snoc_of {D : List Nat} {G n : Nat} (h : D[G]? = some n) : D.take G ++ [n] = D.take (G + 1) := by
  rw [List.take_add_one, h]; rfl

/-- Who draws next (0), waits (1), has the lock (2), and with which ticket; who drew, in turn; how many gave the lock, and had it. -/
structure Line (f : Nat) (st tk : Nat → Nat) (D : List Nat) (G H : Nat) : Prop where
  gh : G ≤ H
  hg : H ≤ G + 1
  hd : H ≤ D.length
  nd : (D.drop G).Nodup
  mem : ∀ n, n ∈ D.drop G ↔ n < 7 ∧ st n ≠ 0
  tick : ∀ p n, G ≤ p → D[p]? = some n → tk n = tick (f + p)
  two : ∀ n, n < 7 → (st n = 2 ↔ H = G + 1 ∧ D[G]? = some n)
  most : ∀ n, n < 7 → st n ≤ 2

theorem mem_drop {D : List Nat} {G n : Nat} : n ∈ D.drop G ↔ ∃ p, G ≤ p ∧ D[p]? = some n := by
  rw [List.mem_iff_getElem?]
  constructor
  · rintro ⟨i, h⟩
    rw [List.getElem?_drop] at h
    exact ⟨G + i, by omega, h⟩
  · rintro ⟨p, h1, h2⟩
    exact ⟨p - G, by rw [List.getElem?_drop, show G + (p - G) = p by omega]; exact h2⟩

theorem Line.draw {f : Nat} {st tk : Nat → Nat} {D : List Nat} {G H n : Nat} (h : Line f st tk D G H) (hn : n < 7) (h0 : st n = 0) : Line f (upd st n 1) (upd tk n (Proofs.Ytednclgfgekgbaa.tick (f + D.length))) (D ++ [n]) G H := by
  have hG : G ≤ D.length := Nat.le_trans h.gh h.hd
  have hnot : n ∉ D.drop G := fun e => ((h.mem n).1 e).2 h0
  have hdrop : (D ++ [n]).drop G = D.drop G ++ [n] := by rw [List.drop_append_of_le_length hG]
  refine ⟨h.gh, h.hg, by have := h.hd; simp; omega, ?_, ?_, ?_, ?_, ?_⟩
  · rw [hdrop, List.nodup_append]
    exact ⟨h.nd, by simp, fun a ha b hb e => hnot (by rw [← List.mem_singleton.1 hb, ← e]; exact ha)⟩
  · intro m
    rw [hdrop, List.mem_append, List.mem_singleton, h.mem m]
    by_cases e : m = n
    · subst e; simp [upd_same, hn]
    · rw [upd_ne _ _ e]; simp [e]
  · intro p m hp hm
    by_cases hlt : p < D.length
    · rw [List.getElem?_append_left hlt] at hm
      have : m ≠ n := fun e => hnot (mem_drop.2 ⟨p, hp, e ▸ hm⟩)
      rw [upd_ne _ _ this]
      exact h.tick p m hp hm
    · rw [List.getElem?_append_right (by omega)] at hm
      have hp0 : p - D.length = 0 := by
        by_cases e : p - D.length = 0
        · exact e
        · rw [List.getElem?_eq_none (by simp; omega)] at hm; cases hm
      rw [hp0] at hm
      obtain rfl : n = m := by simpa using hm
      rw [upd_same, show p = D.length by omega]
  · intro m hm
    have hGl : H = G + 1 → (D ++ [n])[G]? = D[G]? := fun e => List.getElem?_append_left (by have := h.hd; omega)
    by_cases e : m = n
    · subst e
      rw [upd_same]
      refine ⟨fun h1 => by omega, fun ⟨h1, h2⟩ => ?_⟩
      rw [hGl h1] at h2
      exact absurd (mem_drop.2 ⟨G, Nat.le_refl _, h2⟩) hnot
    · rw [upd_ne _ _ e, h.two m hm]
      constructor
      · rintro ⟨h1, h2⟩; exact ⟨h1, by rw [hGl h1]; exact h2⟩
      · rintro ⟨h1, h2⟩; exact ⟨h1, by rw [← hGl h1]; exact h2⟩
  · intro m hm
    by_cases e : m = n
    · subst e; rw [upd_same]; omega
    · rw [upd_ne _ _ e]; exact h.most m hm

theorem Line.mine {f : Nat} {st tk : Nat → Nat} {D : List Nat} {G H n : Nat} (h : Line f st tk D G H) (hn : n < 7) (h1 : st n = 1) (hD : D.length ≤ 65536) (ht : Proofs.Ytednclgfgekgbaa.tick (f + G) = tk n) : H = G ∧ D[G]? = some n ∧ Line f (upd st n 2) tk D G (G + 1) := by
  obtain ⟨p, hp, hpn⟩ := mem_drop.1 ((h.mem n).2 ⟨hn, by omega⟩)
  have hpl : p < D.length := (List.getElem?_eq_some_iff.1 hpn).1
  rw [h.tick p n hp hpn] at ht
  obtain rfl : p = G := by unfold Proofs.Ytednclgfgekgbaa.tick at ht; omega
  have hH : H = p := by
    by_cases e : H = p + 1
    · have := (h.two n hn).2 ⟨e, hpn⟩; omega
    · have := h.gh; have := h.hg; omega
  subst hH
  refine ⟨rfl, hpn, Nat.le_succ _, Nat.le_refl _, by omega, h.nd, ?_, h.tick, ?_, ?_⟩
  · intro m
    rw [h.mem m]
    by_cases e : m = n
    · subst e; rw [upd_same]; simp; omega
    · rw [upd_ne _ _ e]
  · intro m hm
    by_cases e : m = n
    · subst e; rw [upd_same]; simp [hpn]
    · rw [upd_ne _ _ e, h.two m hm]
      constructor
      · rintro ⟨h1, _⟩; omega
      · rintro ⟨_, h2⟩; rw [hpn] at h2; exact absurd (Option.some.inj h2).symm e
  · intro m hm
    by_cases e : m = n
    · subst e; rw [upd_same]; omega
    · rw [upd_ne _ _ e]; exact h.most m hm

theorem Line.give {f : Nat} {st tk : Nat → Nat} {D : List Nat} {G H n : Nat} (h : Line f st tk D G H) (hn : n < 7) (h2 : st n = 2) : H = G + 1 ∧ Line f (upd st n 0) (upd tk n 0) D (G + 1) H := by
  obtain ⟨rfl, hG⟩ := (h.two n hn).1 h2
  have hlt : G < D.length := h.hd
  have hd : D.drop G = n :: D.drop (G + 1) := by
    rw [List.drop_eq_getElem_cons hlt]
    rw [List.getElem?_eq_getElem hlt] at hG
    rw [Option.some.inj hG]
  have hnd := h.nd
  rw [hd, List.nodup_cons] at hnd
  refine ⟨rfl, Nat.le_refl _, Nat.le_succ _, h.hd, hnd.2, ?_, ?_, ?_, ?_⟩
  · intro m
    have := h.mem m
    rw [hd, List.mem_cons] at this
    by_cases e : m = n
    · subst e; rw [upd_same]; simp [hnd.1]
    · rw [upd_ne _ _ e, ← this]; simp [e]
  · intro p m hp hm
    have : m ≠ n := fun e => hnd.1 (e ▸ mem_drop.2 ⟨p, hp, hm⟩)
    rw [upd_ne _ _ this]
    exact h.tick p m (by omega) hm
  · intro m hm
    by_cases e : m = n
    · subst e; rw [upd_same]; simp
    · rw [upd_ne _ _ e, h.two m hm]
      constructor
      · rintro ⟨_, h3⟩; rw [hG] at h3; exact absurd (Option.some.inj h3).symm e
      · rintro ⟨h3, _⟩; omega
  · intro m hm
    by_cases e : m = n
    · subst e; rw [upd_same]; omega
    · rw [upd_ne _ _ e]; exact h.most m hm

/-! ### How many -/
def cnt (p : Nat → Bool) (k : Nat) : Nat := ((List.range k).filter p).length
theorem cnt_le (p : Nat → Bool) (k : Nat) : cnt p k ≤ k := by
  have := List.length_filter_le p (List.range k); simpa [cnt] using this
theorem cnt_hit {p : Nat → Bool} {k : Nat} (h : p k = true) : cnt p (k + 1) = cnt p k + 1 := by simp [cnt, List.range_succ, List.filter_append, h]
theorem cnt_miss {p : Nat → Bool} {k : Nat} (h : p k = false) : cnt p (k + 1) = cnt p k := by simp [cnt, List.range_succ, List.filter_append, h]
theorem cnt_of {p : Nat → Bool} {k : Nat} {l : List Nat} (hl : l.Nodup) (h : ∀ n, n ∈ l ↔ n < k ∧ p n = true) : cnt p k = l.length := by
  have : List.Perm ((List.range k).filter p) l := (List.perm_ext_iff_of_nodup (List.nodup_range.filter p) hl).2 fun n => by rw [List.mem_filter, List.mem_range, h n]
  exact this.length_eq

theorem Line.out {f : Nat} {st tk : Nat → Nat} {D : List Nat} {G H : Nat} (h : Line f st tk D G H) : cnt (fun n => decide (st n ≠ 0)) 7 = D.length - G := by
  rw [cnt_of h.nd (fun n => by rw [h.mem n]; simp), List.length_drop]
theorem Line.holders {f : Nat} {st tk : Nat → Nat} {D : List Nat} {G H : Nat} (h : Line f st tk D G H) : cnt (fun n => decide (st n = 2)) 7 = H - G := by
  have h1 := h.gh
  have h2 := h.hg
  by_cases e : H = G + 1
  · have hlt : G < D.length := by have := h.hd; omega
    have hG := List.getElem?_eq_getElem hlt
    have hm := (h.mem D[G]).1 (mem_drop.2 ⟨G, Nat.le_refl _, hG⟩)
    rw [cnt_of (l := [D[G]]) (by simp) (fun n => ?_)]
    · simp; omega
    · rw [List.mem_singleton]
      constructor
      · rintro rfl; exact ⟨hm.1, decide_eq_true ((h.two _ hm.1).2 ⟨e, hG⟩)⟩
      · rintro ⟨hn, ht⟩
        have := ((h.two n hn).1 (of_decide_eq_true ht)).2
        rw [hG] at this
        exact (Option.some.inj this).symm
  · rw [cnt_of (l := []) (by simp) (fun n => ?_)]
    · simp; omega
    · simp only [List.not_mem_nil, false_iff, not_and]
      intro hn ht
      exact e ((h.two n hn).1 (of_decide_eq_true ht)).1
theorem Line.start (f : Nat) : Line f (fun _ => 0) (fun _ => 0) [] 0 0 :=
  ⟨Nat.le_refl _, by omega, Nat.le_refl _, by simp, fun n => by simp, fun p n _ h => by simp at h, fun n _ => by simp, fun n _ => by omega⟩
end Go.Proofs.Ytednclgfgekgbaa
