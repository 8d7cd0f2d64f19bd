/-
  A turn of one of the guards; who can go on; why all come to their ends in time; pure.
-/
import Derived.Test.YtbjfongjdlankaaUGhost
namespace Go.Proofs.Ytbjfongjdlankaa
open Go.RowKit

/-- What a guard's turn leaves: it gives, if it has all; else it steps. -/
def turnS (vs : List Nat) (s : Gs) : Gs := if s.all then giveS s else stepS 4 6 vs s
def turnV (vs : List Nat) (s : Gs) : List Nat := if s.all then giveVs 4 6 vs s else stepV 4 6 vs s
def turnD (s : Gs) : Bool := s.all && decide (giveN s = 0)

/-- Can guard i do more than to ask again? -/
def En (vs : List Nat) (ss : Nat → Gs) (done : Nat → Bool) (i : Nat) : Prop := done i = false ∧ ((ss i).all = true ∨ (ss i).d = false ∨ mineE 4 6 vs (goes (ss i)) (ss i).t = true)
/-- How many steps of those that lead on a guard has before it. -/
def todo (s : Gs) (dn : Bool) : Nat := if dn then 0 else 2 * (s.l.length - s.h) - (if s.d then 1 else 0) + s.l.length + 1

theorem all_iff {s : Gs} : s.all = true ↔ s.h = s.l.length := ⟨of_decide_eq_true, decide_eq_true⟩
section
variable {n m : Nat} {ss : Nat → Gs} {vs : List Nat} {done : Nat → Bool} {T : Nat → Nat → Nat}

/-- The turns, one by one: what they leave, and how much less is to do. -/
inductive Turn (vs : List Nat) (s : Gs) : Gs → List Nat → Bool → Prop
  | draw (k : Nat) : s.h < s.l.length → s.d = false → k < 6 → goes s = (k : Int) → Turn vs s (drawS s (nxt vs k)) (vs.set (nextAt 4 k) (nxt vs k + 1)) false
  | mine (k : Nat) : s.h < s.l.length → s.d = true → k < 6 → goes s = (k : Int) → srv vs k = s.t → Turn vs s (mineS s) vs false
  | wait (k : Nat) : s.h < s.l.length → s.d = true → k < 6 → goes s = (k : Int) → srv vs k ≠ s.t → Turn vs s s vs false
  | give (k p : Nat) : s.h = p + 1 → s.h = s.l.length → s.d = false → k < 6 → atI s.l p = (k : Int) → Turn vs s (backS s p) (vs.set (servedAt 4 k) (srv vs k + 1)) (decide (p = 0))
  | none : s.h = 0 → s.l = [] → s.d = false → Turn vs s s vs true

theorem Inv.turns (h : Inv n ss vs done T m) (hm : m < 65535) {i : Nat} (hi : i < n) : Turn vs (ss i) (turnS vs (ss i)) (turnV vs (ss i)) (turnD (ss i)) := by
  have hle := h.le i hi
  by_cases ha : (ss i).h = (ss i).l.length
  · have hall : (ss i).all = true := decide_eq_true ha
    have hd : (ss i).d = false := by
      cases e : (ss i).d with
      | false => rfl
      | true => have := h.dlt i hi e; omega
    rw [turnS, turnV, turnD, hall, if_pos rfl, if_pos rfl, Bool.true_and]
    cases hp : (ss i).h with
    | zero =>
      have hE : giveE (ss i) = 3 := by rw [giveE, if_pos hp]
      have hl : (ss i).l = [] := List.length_eq_zero_iff.1 (by omega)
      rw [giveS, giveVs, giveN, hE, if_neg (by decide), if_neg (by decide), if_neg (by decide)]
      exact .none hp hl hd
    | succ p =>
      have hE : giveE (ss i) = 0 := by rw [giveE, if_neg (by omega), hd]; rfl
      have hpl : p < (ss i).l.length := by omega
      have h6 := h.six i hi _ (atI_mem hpl)
      obtain ⟨k, hk⟩ := Int.eq_ofNat_of_zero_le h6.1
      have hk6 : k < 6 := by omega
      have hk' : atI (ss i).l p = (k : Int) := hk
      rw [giveS, giveVs, giveN, hE, if_pos rfl, if_pos rfl, if_pos rfl, hp, Nat.add_sub_cancel, hk', giveV_at hk6 (by have := h.sle hk6; omega)]
      exact .give k p hp ha hd hk6 hk'
  · have hall : (ss i).all = false := decide_eq_false ha
    have hlt : (ss i).h < (ss i).l.length := by omega
    obtain ⟨k, hk, hg⟩ := h.goes_nat hi hlt
    have hg' : atI (ss i).l (ss i).h = (k : Int) := hg
    unfold turnS turnV turnD stepS stepV
    simp only [hall, hg', Bool.false_eq_true, if_false, Bool.false_and]
    cases hd : (ss i).d with
    | false =>
      simp only [if_true]
      rw [drawE_at hk (by have := h.bd k hk; omega), drawV_at hk (by have := h.bd k hk; omega)]
      exact .draw k hlt hd hk hg
    | true =>
      simp only [Bool.true_eq_false, if_false]
      rw [mineE_at hk (by have := h.sle hk; omega)]
      by_cases ht : srv vs k = (ss i).t
      · rw [if_pos (decide_eq_true ht)]
        exact .mine k hlt hd hk hg ht
      · rw [if_neg (by rw [decide_eq_false ht]; decide)]
        exact .wait k hlt hd hk hg ht

theorem upd_same_fun {α : Type} {f : Nat → α} {i : Nat} {v : α} (h : f i = v) : upd f i v = f := by rw [← h]; exact upd_id f i

theorem Inv.turn (h : Inv n ss vs done T m) (hm : m < 65535) {i : Nat} (hi : i < n) (hdn : done i = false) :
    ∃ T', Inv n (upd ss i (turnS vs (ss i))) (turnV vs (ss i)) (upd done i (turnD (ss i))) T' (m + 1) := by
  have ht := h.turns hm hi
  generalize turnS vs (ss i) = s' at ht ⊢
  generalize turnV vs (ss i) = vs' at ht ⊢
  generalize turnD (ss i) = b at ht ⊢
  cases ht with
  | draw k h1 h2 h3 h4 => rw [upd_same_fun hdn]; exact ⟨_, h.draw hi h1 h2 h3 h4⟩
  | mine k h1 h2 h3 h4 h5 => rw [upd_same_fun hdn]; exact ⟨_, h.mine hi h2 h3 h4 h5⟩
  | wait k h1 h2 h3 h4 h5 => rw [upd_same_fun hdn, upd_id]; exact ⟨_, h.later⟩
  | give k p h1 h2 h3 h4 h5 => exact ⟨_, h.give hi h1 h2 h4 h5⟩
  | none h1 h2 h3 =>
    rw [upd_id]
    refine ⟨T, ⟨h.len, h.rise, h.six, h.le, h.dlt, h.tk, h.rng, h.inj, h.ex, h.top, h.sv, fun k hk => Nat.le_succ_of_le (h.bd k hk), fun j hj hj2 => ?_⟩⟩
    by_cases e : j = i
    · subst e; exact h2
    · rw [upd_ne _ _ e] at hj2; exact h.fin j hj hj2

/-- A turn of one that can go on is a step that leads on. -/
theorem Inv.less (h : Inv n ss vs done T m) (hm : m < 65535) {i : Nat} (hi : i < n) (he : En vs ss done i) : todo (turnS vs (ss i)) (turnD (ss i)) < todo (ss i) (done i) := by
  have ht := h.turns hm hi
  have hle := h.le i hi
  obtain ⟨hdn, he⟩ := he
  rw [hdn]
  generalize turnS vs (ss i) = s' at ht ⊢
  generalize turnV vs (ss i) = vs' at ht
  generalize turnD (ss i) = b at ht ⊢
  cases ht with
  | draw k h1 h2 h3 h4 => simp only [todo, drawS, h2]; simp; omega
  | mine k h1 h2 h3 h4 h5 => simp only [todo, mineS, h2]; simp; omega
  | wait k h1 h2 h3 h4 h5 =>
    exfalso
    rcases he with he | he | he
    · have := all_iff.1 he; omega
    · rw [h2] at he; cases he
    · rw [h4, mineE_at h3 (by have := h.sle h3; omega)] at he
      exact h5 (of_decide_eq_true he)
  | give k p h1 h2 h3 h4 h5 =>
    simp only [todo, backS, h3, List.length_take]
    by_cases hp : p = 0
    · simp [hp]
    · simp [hp]; omega
  | none h1 h2 h3 => simp [todo]
/-- A turn of one that can't leaves all as it is. -/
theorem Inv.still (h : Inv n ss vs done T m) (hm : m < 65535) {i : Nat} (hi : i < n) (hdn : done i = false) (he : ¬ En vs ss done i) : turnS vs (ss i) = ss i ∧ turnV vs (ss i) = vs ∧ turnD (ss i) = false := by
  have ht := h.turns hm hi
  generalize turnS vs (ss i) = s' at ht ⊢
  generalize turnV vs (ss i) = vs' at ht ⊢
  generalize turnD (ss i) = b at ht ⊢
  cases ht with
  | draw k h1 h2 h3 h4 => exact absurd ⟨hdn, .inr (.inl h2)⟩ he
  | mine k h1 h2 h3 h4 h5 => exact absurd ⟨hdn, .inr (.inr (by rw [h4, mineE_at h3 (by have := h.sle h3; omega)]; exact decide_eq_true h5))⟩ he
  | wait k h1 h2 h3 h4 h5 => exact ⟨rfl, rfl, rfl⟩
  | give k p h1 h2 h3 h4 h5 => exact absurd ⟨hdn, .inl (all_iff.2 h2)⟩ he
  | none h1 h2 h3 => exact absurd ⟨hdn, .inr (.inl h3)⟩ he
/-- Who can go on still can behind another one's turn. -/
theorem Inv.keeps (h : Inv n ss vs done T m) (hm : m < 65535) {i j : Nat} (hi : i < n) (hj : j < n) (hne : j ≠ i) (he : En vs ss done j) :
    En (turnV vs (ss i)) (upd ss i (turnS vs (ss i))) (upd done i (turnD (ss i))) j := by
  have ht := h.turns hm hi
  obtain ⟨hdn, he⟩ := he
  rw [En, upd_ne _ _ hne, upd_ne _ _ hne]
  refine ⟨hdn, ?_⟩
  by_cases hall : (ss j).all = true
  · exact .inl hall
  cases hd : (ss j).d with
  | false => exact .inr (.inl rfl)
  | true =>
    have hm1 : mineE 4 6 vs (goes (ss j)) (ss j).t = true := by
      rcases he with he | he | he
      · exact absurd he hall
      · rw [hd] at he; cases he
      · exact he
    have hlt := h.dlt j hj hd
    obtain ⟨k, hk, hg⟩ := h.goes_nat hj hlt
    rw [hg, mineE_at hk (by have := h.sle hk; omega)] at hm1
    have hs := of_decide_eq_true hm1
    have hT : T j k = srv vs k := (h.tk j k hj hd hg).trans hs.symm
    have hsame : srv (turnV vs (ss i)) k = srv vs k := by
      generalize turnS vs (ss i) = s' at ht
      generalize turnV vs (ss i) = vs' at ht ⊢
      generalize turnD (ss i) = b at ht
      cases ht with
      | draw q h1 h2 h3 h4 => exact srv_draw
      | mine q h1 h2 h3 h4 h5 => rfl
      | wait q h1 h2 h3 h4 h5 => rfl
      | give q p h1 h2 h3 h4 h5 =>
        rw [srv_give h.len h4]
        split
        · rename_i e; subst e
          exfalso
          have hin : ((k : Nat) : Int) ∈ heldL (ss i) := by
            rw [← h5, heldL, List.take_of_length_le (by omega)]; exact atI_mem (by omega)
          exact hne (h.inj j i k hj hi hk (.inr ⟨hd, hg⟩) (.inl hin) (hT.trans (h.top i k hi hin).symm))
        · rfl
      | none h1 h2 h3 => rfl
    refine .inr (.inr ?_)
    rw [hg, mineE_at hk (by rw [hsame]; have := h.sle hk; omega), hsame]
    exact decide_eq_true hs
/-- Of those that are not through, one can go on: of those that wait, ask who has what the one that waits for the greatest lock wants. -/
theorem Inv.someone (h : Inv n ss vs done T m) (hm : m < 65535) : ∀ (r k i : Nat), 6 ≤ k + r → k < 6 → i < n → done i = false → (ss i).d = true → goes (ss i) = (k : Int) → ∃ j, j < n ∧ En vs ss done j
  | 0, k, _, hr, hk, _, _, _, _ => by omega
  | r + 1, k, i, hr, hk, hi, hdn, hd, hg => by
    have hin : Ins (ss i) k := .inr ⟨hd, hg⟩
    have hrg := h.rng i k hi hk hin
    obtain ⟨j, hj, hjin, hjt⟩ := h.ex k (srv vs k) hk (Nat.le_refl _) (by omega)
    have hjd : done j = false := by
      cases e : done j with
      | false => rfl
      | true =>
        have hl := h.fin j hj e
        exfalso
        rcases hjin with hx | ⟨hx, -⟩
        · have := held_sub hx; rw [hl] at this; cases this
        · have := h.dlt j hj hx; rw [hl] at this; simp at this
    by_cases hall : (ss j).all = true
    · exact ⟨j, hj, hjd, .inl hall⟩
    have hle := h.le j hj
    have hlt : (ss j).h < (ss j).l.length := by have : ¬ (ss j).h = (ss j).l.length := fun e => hall (all_iff.2 e); omega
    cases hdj : (ss j).d with
    | false => exact ⟨j, hj, hjd, .inr (.inl hdj)⟩
    | true =>
      rcases hjin with hx | ⟨-, hx⟩
      · obtain ⟨q, hq, hgq⟩ := h.goes_nat hj hlt
        have := held_lt (h.rise j hj) hlt hx
        exact h.someone hm r q j (by omega) hq hj hjd hdj hgq
      · refine ⟨j, hj, hjd, .inr (.inr ?_)⟩
        rw [hx, mineE_at hk (by have := h.sle hk; omega)]
        exact decide_eq_true (hjt.symm.trans (h.tk j k hj hdj hx))
theorem Inv.enabled (h : Inv n ss vs done T m) (hm : m < 65535) {i : Nat} (hi : i < n) (hdn : done i = false) : ∃ j, j < n ∧ En vs ss done j := by
  cases hd : (ss i).d with
  | false => exact ⟨i, hi, hdn, .inr (.inl hd)⟩
  | true =>
    obtain ⟨k, hk, hg⟩ := h.goes_nat hi (h.dlt i hi hd)
    exact h.someone hm 6 k i (by omega) hk hi hdn hd hg

/-! ### How long it takes -/
def tot (f : Nat → Nat) : Nat → Nat
  | 0 => 0
  | n + 1 => tot f n + f n
theorem tot_le {f : Nat → Nat} {b : Nat} : ∀ n, (∀ i, i < n → f i ≤ b) → tot f n ≤ b * n
  | 0, _ => Nat.le_refl _
  | n + 1, h => by
    have := tot_le n (fun i hi => h i (by omega))
    have := h n (by omega)
    rw [tot, Nat.mul_succ]; omega
theorem tot_pos {f : Nat → Nat} {i : Nat} : ∀ n, i < n → f i ≤ tot f n
  | 0, h => by omega
  | n + 1, h => by
    rw [tot]
    by_cases e : i = n
    · subst e; omega
    · have := tot_pos (f := f) n (show i < n by omega); omega
theorem tot_same {f g : Nat → Nat} : ∀ n, (∀ i, i < n → g i = f i) → tot g n = tot f n
  | 0, _ => rfl
  | n + 1, h => by rw [tot, tot, tot_same n (fun i hi => h i (by omega)), h n (by omega)]
theorem tot_less {f g : Nat → Nat} {i : Nat} : ∀ n, i < n → g i < f i → (∀ j, j < n → j ≠ i → g j = f j) → tot g n + 1 ≤ tot f n
  | 0, h, _, _ => by omega
  | n + 1, h, hl, hs => by
    rw [tot, tot]
    by_cases e : i = n
    · subst e
      rw [tot_same (f := f) (g := g) i (fun j hj => hs j (by omega) (by omega))]; omega
    · have := tot_less (f := f) (g := g) n (show i < n by omega) hl (fun j hj hne => hs j (by omega) hne)
      have := hs n (by omega) (by omega)
      omega
/-- How long till i's turn, at turn m of n in a circle. -/
def wait (n i m : Nat) : Nat := if m % n ≤ i then i - m % n else i + n - m % n
theorem mod_next {n : Nat} (m : Nat) (hn : 0 < n) : (m + 1) % n = if m % n + 1 = n then 0 else m % n + 1 := by
  have h1 := Nat.mod_lt m hn
  have h2 := Nat.div_add_mod m n
  split
  · rename_i e
    have : m + 1 = n * (m / n + 1) := by rw [Nat.mul_succ]; omega
    rw [this, Nat.mul_mod_right]
  · have : m + 1 = n * (m / n) + (m % n + 1) := by omega
    rw [this, Nat.mul_add_mod, Nat.mod_eq_of_lt (by omega)]
theorem wait_lt {n i : Nat} (m : Nat) (hi : i < n) : wait n i m < n := by
  have := Nat.mod_lt m (show 0 < n by omega)
  unfold wait; split <;> omega
theorem wait_next {n i m : Nat} (hi : i < n) (hne : i ≠ m % n) : wait n i (m + 1) + 1 = wait n i m := by
  have h1 := Nat.mod_lt m (show 0 < n by omega)
  rw [wait, wait, mod_next m (by omega)]
  by_cases e : m % n + 1 = n
  · rw [if_pos e]
    split <;> split <;> omega
  · rw [if_neg e]
    split <;> split <;> omega
/-- In the rest of the time, up to turn e, all come to their ends. -/
def Soon (n : Nat) (ss : Nat → Gs) (vs : List Nat) (done : Nat → Bool) (m e : Nat) : Prop :=
  (∀ i, i < n → done i = true) ∨ ∃ i, i < n ∧ En vs ss done i ∧ (tot (fun j => todo (ss j) (done j)) n - 1) * n + wait n i m + 1 ≤ e - m
theorem Inv.todo_le (h : Inv n ss vs done T m) {i : Nat} (hi : i < n) (hl : (ss i).l.length ≤ 6) : todo (ss i) (done i) ≤ 19 := by
  have := h.le i hi
  unfold todo; split
  · omega
  · omega
theorem all_or (f : Nat → Bool) : ∀ n, (∀ i, i < n → f i = true) ∨ ∃ i, i < n ∧ f i = false
  | 0 => .inl fun i hi => by omega
  | n + 1 => by
    rcases all_or f n with h | ⟨i, hi, h⟩
    · cases e : f n with
      | true =>
        refine .inl fun i hi => ?_
        by_cases e2 : i = n
        · subst e2; exact e
        · exact h i (by omega)
      | false => exact .inr ⟨n, by omega, e⟩
    · exact .inr ⟨i, by omega, h⟩
theorem Inv.soon (h : Inv n ss vs done T m) (hm : m < 65535) {e : Nat} (he : (tot (fun j => todo (ss j) (done j)) n) * n ≤ e - m) : Soon n ss vs done m e := by
  rcases all_or done n with ha | ⟨i, hi, hd⟩
  · exact .inl ha
  · obtain ⟨j, hj, hE⟩ := h.enabled hm hi hd
    refine .inr ⟨j, hj, hE, ?_⟩
    have h1 : todo (ss j) (done j) ≤ tot (fun j => todo (ss j) (done j)) n := tot_pos (f := fun j => todo (ss j) (done j)) n hj
    have h2 : 1 ≤ todo (ss j) (done j) := by rw [hE.1]; unfold todo; simp
    have h3 := wait_lt m hj
    obtain ⟨t, ht⟩ : ∃ t, tot (fun j => todo (ss j) (done j)) n = t + 1 := ⟨tot (fun j => todo (ss j) (done j)) n - 1, by omega⟩
    rw [ht, Nat.succ_mul] at he
    rw [ht, Nat.add_sub_cancel]
    omega
theorem soon_first (h : Inv n ss vs done T m) (hm : m < 65535) (hl : ∀ i, i < n → (ss i).l.length ≤ 6) {e : Nat} (he : 280 * n * n ≤ e - m) : Soon n ss vs done m e := by
  refine h.soon hm (Nat.le_trans ?_ he)
  refine Nat.mul_le_mul_right n (Nat.le_trans (tot_le (b := 19) n fun i hi => h.todo_le hi (hl i hi)) ?_)
  exact Nat.mul_le_mul_right n (by omega)
theorem Inv.soon_turn (h : Inv n ss vs done T m) (hm : m < 65534) {e : Nat} (hs : Soon n ss vs done m e) {i : Nat} (hi : i < n) (hw : i = m % n) (hdn : done i = false) :
    Soon n (upd ss i (turnS vs (ss i))) (turnV vs (ss i)) (upd done i (turnD (ss i))) (m + 1) e := by
  rcases hs with hs | ⟨j, hj, hE, hle⟩
  · rw [hs i hi] at hdn; cases hdn
  · by_cases hEi : En vs ss done i
    · have hless := h.less (by omega) hi hEi
      have htl : tot (fun j => todo (upd ss i (turnS vs (ss i)) j) (upd done i (turnD (ss i)) j)) n + 1 ≤ tot (fun j => todo (ss j) (done j)) n := by
        refine tot_less (i := i) n hi ?_ fun p hp hne => ?_
        · simp only [upd_same]; exact hless
        · simp only [upd_ne _ _ hne]
      by_cases hji : j = i
      · subst hji
        obtain ⟨T', h'⟩ := h.turn (by omega) hi hdn
        refine h'.soon (by omega) (Nat.le_trans (Nat.mul_le_mul_right n (show _ ≤ tot (fun j => todo (ss j) (done j)) n - 1 by omega)) ?_)
        omega
      · refine .inr ⟨j, hj, h.keeps (by omega) hi hj hji hE, ?_⟩
        have h1 := wait_next (m := m) hj (by omega)
        have h2 := Nat.mul_le_mul_right n (show tot (fun j => todo (upd ss i (turnS vs (ss i)) j) (upd done i (turnD (ss i)) j)) n - 1 ≤ tot (fun j => todo (ss j) (done j)) n - 1 by omega)
        omega
    · obtain ⟨e1, e2, e3⟩ := h.still (by omega) hi hdn hEi
      rw [e1, e2, e3, upd_id, upd_same_fun hdn]
      refine .inr ⟨j, hj, hE, ?_⟩
      have h1 := wait_next (m := m) hj (by intro hh; exact hEi (by rw [hw, ← hh]; exact hE))
      omega
theorem soon_past {e : Nat} (hs : Soon n ss vs done m e) {i : Nat} (hw : i = m % n) (hdn : done i = true) : Soon n ss vs done (m + 1) e := by
  rcases hs with hs | ⟨j, hj, hE, hle⟩
  · exact .inl hs
  · refine .inr ⟨j, hj, hE, ?_⟩
    have h1 := wait_next (m := m) hj (by intro hh; rw [hh, ← hw] at hE; rw [hE.1] at hdn; cases hdn)
    omega
theorem soon_end {e : Nat} (hs : Soon n ss vs done m e) (he : e ≤ m) : ∀ i, i < n → done i = true := by
  rcases hs with hs | ⟨j, hj, hE, hle⟩
  · exact hs
  · omega
end
end Go.Proofs.Ytbjfongjdlankaa
