/-
  What the law GuardApart holds at the head of a round.
-/
import Derived.Test.YtbjfongjdlankaaULive
namespace Go.Proofs.Ytbjfongjdlankaa
open Go.RowKit

theorem turn_len {vs vs' : List Nat} {s s' : Gs} {b : Bool} (h : Turn vs s s' vs' b) : s'.l.length ≤ s.l.length := by
  cases h with
  | draw k h1 h2 h3 h4 => exact Nat.le_refl _
  | mine k h1 h2 h3 h4 h5 => exact Nat.le_refl _
  | wait k h1 h2 h3 h4 h5 => exact Nat.le_refl _
  | give k p h1 h2 h3 h4 h5 => exact List.length_take_le' _ _
  | none h1 h2 h3 => exact Nat.le_refl _
theorem turn_emp {vs vs' : List Nat} {s s' : Gs} {b : Bool} (h : Turn vs s s' vs' b) (hb : b = false) (hl : s'.l = []) : s.l = [] := by
  cases h with
  | draw k h1 h2 h3 h4 => exact hl
  | mine k h1 h2 h3 h4 h5 => exact hl
  | wait k h1 h2 h3 h4 h5 => exact hl
  | give k p h1 h2 h3 h4 h5 =>
    have hp := of_decide_eq_false hb
    have hl' : s.l.take p = [] := hl
    have := congrArg List.length hl'
    rw [List.length_take, List.length_nil] at this
    omega
  | none h1 h2 h3 => exact hl

/-- m turns are over of e; the first M went in any order; guard i wanted the bits q i. -/
def Going (n : Nat) (q : Nat → Nat) (ss : Nat → Gs) (vs : List Nat) (done : Nat → Bool) (M m : Nat) : Prop :=
  ∃ T, Inv n ss vs done T m ∧ (M ≤ m → Soon n ss vs done m (M + 280 * n * n)) ∧ (∀ i, i < n → (ss i).l.length ≤ 6) ∧ ∀ i, i < n → done i = false → (ss i).l = [] → lockL (q i) 6 = []
section
variable {n M m : Nat} {q : Nat → Nat} {ss : Nat → Gs} {vs : List Nat} {done : Nat → Bool}
theorem Going.parted (h : Going n q ss vs done M m) : Parted n ss := by obtain ⟨T, h, -⟩ := h; exact h.parted
theorem Going.turn (h : Going n q ss vs done M m) (hm : m < 65534) {i : Nat} (hi : i < n) (hw : M ≤ m → i = m % n) (hdn : done i = false) :
    Going n q (upd ss i (turnS vs (ss i))) (turnV vs (ss i)) (upd done i (turnD (ss i))) M (m + 1) := by
  obtain ⟨T, h1, h2, h3, h4⟩ := h
  obtain ⟨T', h'⟩ := h1.turn (by omega) hi hdn
  have ht := h1.turns (by omega) hi
  have hl : ∀ j, j < n → (upd ss i (turnS vs (ss i)) j).l.length ≤ 6 := fun j hj => by
    by_cases e : j = i
    · subst e; rw [upd_same]; exact Nat.le_trans (turn_len ht) (h3 j hj)
    · rw [upd_ne _ _ e]; exact h3 j hj
  refine ⟨T', h', fun hM => ?_, hl, fun j hj hdj hlj => ?_⟩
  · by_cases hMm : M ≤ m
    · exact h1.soon_turn (by omega) (h2 hMm) hi (hw hMm) hdn
    · obtain rfl : M = m + 1 := by omega
      exact soon_first h' (by omega) hl (by omega)
  · by_cases e : j = i
    · subst e
      rw [upd_same] at hdj hlj
      exact h4 j hj hdn (turn_emp ht hdj hlj)
    · rw [upd_ne _ _ e] at hdj hlj; exact h4 j hj hdj hlj
theorem Going.past (h : Going n q ss vs done M m) (hm : m < 65534) {i : Nat} (hw : M ≤ m → i = m % n) (hdn : done i = true) : Going n q ss vs done M (m + 1) := by
  obtain ⟨T, h1, h2, h3, h4⟩ := h
  refine ⟨T, h1.later, fun hM => ?_, h3, h4⟩
  by_cases hMm : M ≤ m
  · exact soon_past (h2 hMm) (hw hMm) hdn
  · obtain rfl : M = m + 1 := by omega
    exact soon_first h1.later (by omega) h3 (by omega)
theorem Going.over (h : Going n q ss vs done M m) (hm : M + 280 * n * n ≤ m) : ∀ i, i < n → done i = true := by
  obtain ⟨T, h1, h2, h3, h4⟩ := h
  exact soon_end (h2 (by omega)) hm
theorem Going.emp (h : Going n q ss vs done M m) {i : Nat} (hi : i < n) (hdn : done i = false) (ha : (ss i).all = true) (hE : giveE (ss i) ≠ 0) : lockL (q i) 6 = [] := by
  obtain ⟨T, h1, h2, h3, h4⟩ := h
  refine h4 i hi hdn ?_
  have hh := all_iff.1 ha
  unfold giveE at hE
  split at hE
  · exact List.length_eq_zero_iff.1 (by omega)
  · exfalso
    cases hd : (ss i).d with
    | false => rw [hd] at hE; exact hE rfl
    | true => have := h1.dlt i hi hd; omega
theorem zeros_at (k : Nat) : nth zeros k = 0 := by
  unfold nth zeros
  rw [List.getElem?_replicate]; split <;> rfl
theorem Going.first (n M : Nat) (q : Nat → Nat) : Going n q (fun i => ⟨lockL (q i) 6, 0, false, 0⟩) zeros (fun _ => false) M 0 := by
  have hnx : ∀ k, nxt zeros k = 0 := fun k => zeros_at _
  have hsv : ∀ k, srv zeros k = 0 := fun k => zeros_at _
  have hI : Inv n (fun i => ⟨lockL (q i) 6, 0, false, 0⟩) zeros (fun _ => false) (fun _ _ => 0) 0 := by
    refine ⟨rfl, fun i _ => lockL_rise _ _, fun i _ x hx => by have := lockL_mem hx; omega, fun i _ => Nat.zero_le _, fun i _ h => (by cases h), fun i k _ h => (by cases h), fun i k _ _ h => ?_, fun i j k _ _ _ h => ?_, fun k t _ _ h => by rw [hnx] at h; omega, fun i k _ h => ?_, fun k _ => by rw [hnx, hsv]; exact Nat.le_refl _, fun k _ => by rw [hnx]; exact Nat.le_refl _, fun i _ h => by cases h⟩
    · rcases h with h | ⟨h, -⟩
      · simp [heldL] at h
      · cases h
    · rcases h with h | ⟨h, -⟩
      · simp [heldL] at h
      · cases h
    · simp [heldL] at h
  refine ⟨_, hI, fun hM => ?_, fun i _ => lockL_len _ _, fun i _ _ h => h⟩
  obtain rfl : M = 0 := by omega
  exact soon_first hI (by omega) (fun i _ => lockL_len _ _) (by omega)
theorem turnS_all {s : Gs} (h : s.all = true) : turnS vs s = giveS s ∧ turnV vs s = giveVs 4 6 vs s ∧ turnD s = decide (giveN s = 0) := by
  unfold turnS turnV turnD; rw [h]; exact ⟨rfl, rfl, rfl⟩
theorem turnS_not {s : Gs} (h : s.all = false) : turnS vs s = stepS 4 6 vs s ∧ turnV vs s = stepV 4 6 vs s ∧ turnD s = false := by
  unfold turnS turnV turnD; rw [h]; exact ⟨rfl, rfl, rfl⟩
end

/-- The guards' row in memory. -/
def PRow (W : World) (T n : Nat) (gs : Nat → Nat) : Prop := ∃ cs z, W.heap[T]? = some (.cells cs 41 z) ∧ ∀ j, j < n → W.cell? ⟨T, j, none⟩ = some (PtrF gs j)
theorem PRow.cell {W : World} {T n : Nat} {gs : Nat → Nat} (h : PRow W T n gs) {j : Nat} (hj : j < n) : W.cell? ⟨T, j, none⟩ = some (.pointer (some ⟨gs j, 0, none⟩)) := by obtain ⟨_, _, _, h⟩ := h; exact h j hj
theorem PRow.but {W W' : World} {T n : Nat} {gs : Nat → Nat} (h : PRow W T n gs) {S : List Nat} (hb : But S W W') (hT : T ∉ S) : PRow W' T n gs := by
  obtain ⟨cs, z, h1, h2⟩ := h
  exact ⟨cs, z, (hb.block T (Array.getElem?_eq_some_iff.1 h1).1 hT).trans h1, fun j hj => hb.cell (h2 j hj) hT⟩

/-- The law at the head of a round: the guards, their row, who is through. -/
structure Lay (w0 W : World) (L P Q B V n T D : Nat) (gs : Nat → Nat) (ss : Nat → Gs) (vs : List Nat) (c : Nat) (done : Nat → Bool) : Prop where
  ks : Gks w0 W L P Q B V n gs ss vs c
  row : PRow W T n gs
  dn : ArrF W D 4 n (fun k => .bool (done k))
  own : w0.heap.size ≤ D
section
variable {w0 W W' : World} {L P Q B V n T D c : Nat} {gs : Nat → Nat} {ss : Nat → Gs} {vs : List Nat} {done : Nat → Bool}
theorem Lay.fresh (h : Lay w0 W L P Q B V n T D gs ss vs c done) (hb : But [] W W') : Lay w0 W' L P Q B V n T D gs ss vs c done := ⟨h.ks.fresh hb, h.row.but hb (by simp), h.dn.but hb (by simp), h.own⟩
theorem Lay.turn (h : Lay w0 W L P Q B V n T D gs ss vs c done) {i c' : Nat} {ss' : Nat → Gs} {vs' : List Nat} (hi : i < n) (hK : Gks w0 W' L P Q B V n gs ss' vs' c') (hb : But [B, V, gs i] W W') : Lay w0 W' L P Q B V n T D gs ss' vs' c' done := by
  obtain ⟨a, cap, hg⟩ := h.ks.gd i hi
  refine ⟨hK, h.row.but hb ?_, h.dn.but hb ?_, h.own⟩
  · obtain ⟨cs, z, h1, h2⟩ := h.row
    simpa using ⟨type_ne h1 h.ks.cels.head (by decide), type_ne h1 h.ks.cels.row (by decide), type_ne h1 hg.head (by decide)⟩
  · simpa using ⟨type_ne h.dn h.ks.cels.head (by decide), type_ne h.dn h.ks.cels.row (by decide), type_ne h.dn hg.head (by decide)⟩
theorem upd_bool {done : Nat → Bool} {i : Nat} {b : Bool} : (upd (fun k => Value.bool (done k)) i (.bool b)) = fun k => Value.bool (upd done i b k) := by
  funext k; unfold upd; split <;> rfl
theorem Lay.set (h : Lay w0 W L P Q B V n T D gs ss vs c done) (i : Nat) (b : Bool) : Lay w0 (W.setCell ⟨D, i, none⟩ (.bool b)) L P Q B V n T D gs ss vs c (upd done i b) := by
  have hb := (But.refl [D] W).set (p := ⟨D, i, none⟩) (.inl (by simp)) (.bool b)
  refine ⟨h.ks.but' hb (by simpa using h.own) (Alien.cons h.dn (by decide) (Alien.nil _)), h.row.but hb ?_, ?_, h.own⟩
  · obtain ⟨cs, z, h1, h2⟩ := h.row
    simpa using type_ne h1 h.dn (by decide)
  · have := h.dn.set i (.bool b)
    rwa [upd_bool] at this
end
end Go.Proofs.Ytbjfongjdlankaa
