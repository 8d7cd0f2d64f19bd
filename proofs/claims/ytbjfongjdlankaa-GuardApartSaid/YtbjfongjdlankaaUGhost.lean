/-
  Guards that take their locks in order: who stands in which lock's row, with which ticket; pure.
-/
import Derived.Test.YtbjfongjdlankaaUApartFn
namespace Go.Proofs.Ytbjfongjdlankaa
open Go.RowKit

/-- A lock's next ticket, and the one that it serves. -/
def nxt (vs : List Nat) (k : Nat) : Nat := nth vs (nextAt 4 k)
def srv (vs : List Nat) (k : Nat) : Nat := nth vs (servedAt 4 k)
theorem nth_set_ne {vs : List Nat} {i j v : Nat} (h : i ≠ j) : nth (vs.set i v) j = nth vs j := by unfold nth; rw [List.getElem?_set_ne h]
theorem nth_set_eq {vs : List Nat} {i v : Nat} (h : i < vs.length) : nth (vs.set i v) i = v := by unfold nth; rw [List.getElem?_set_self h]; rfl
theorem tick_of {x : Nat} (h : x < 65536) : tick x = x := by unfold tick; omega
theorem up_of {x : Nat} (h : x < 65536) : up x = x + 1 := by unfold up; omega
theorem in6 {k : Nat} (h : k < 6) : inRow 6 (k : Int) = true := inRow_of h
theorem drawE_at {vs : List Nat} {k : Nat} (hk : k < 6) (h : nxt vs k < 65536) : drawE 4 6 vs (k : Int) = nxt vs k := by
  rw [drawE, if_pos (in6 hk), Int.toNat_natCast]; exact tick_of h
theorem drawV_at {vs : List Nat} {k : Nat} (hk : k < 6) (h : nxt vs k < 65536) : drawV 4 6 vs (k : Int) = vs.set (nextAt 4 k) (nxt vs k + 1) := by
  rw [drawV, if_pos (in6 hk), Int.toNat_natCast]; exact congrArg _ (up_of h)
theorem giveV_at {vs : List Nat} {k : Nat} (hk : k < 6) (h : srv vs k < 65536) : giveV 4 6 vs (k : Int) = vs.set (servedAt 4 k) (srv vs k + 1) := by
  rw [giveV, if_pos (in6 hk), Int.toNat_natCast]; exact congrArg _ (up_of h)
theorem mineE_at {vs : List Nat} {k t : Nat} (hk : k < 6) (h : srv vs k < 65536) : mineE 4 6 vs (k : Int) t = decide (srv vs k = t) := by
  rw [mineE, in6 hk, Bool.true_and, Int.toNat_natCast, show nth vs (servedAt 4 k) = srv vs k from rfl, tick_of h]
theorem nxt_draw {vs : List Nat} {k j x : Nat} (hl : vs.length = 20) (hk : k < 6) : nxt (vs.set (nextAt 4 k) x) j = if j = k then x else nxt vs j := by
  by_cases e : j = k
  · subst e; rw [if_pos rfl]; exact nth_set_eq (by unfold nextAt; omega)
  · rw [if_neg e]; exact nth_set_ne (by unfold nextAt; omega)
theorem srv_draw {vs : List Nat} {k j x : Nat} : srv (vs.set (nextAt 4 k) x) j = srv vs j := nth_set_ne (by unfold nextAt servedAt; omega)
theorem srv_give {vs : List Nat} {k j x : Nat} (hl : vs.length = 20) (hk : k < 6) : srv (vs.set (servedAt 4 k) x) j = if j = k then x else srv vs j := by
  by_cases e : j = k
  · subst e; rw [if_pos rfl]; exact nth_set_eq (by unfold servedAt; omega)
  · rw [if_neg e]; exact nth_set_ne (by unfold servedAt; omega)
theorem nxt_give {vs : List Nat} {k j x : Nat} : nxt (vs.set (servedAt 4 k) x) j = nxt vs j := nth_set_ne (by unfold nextAt servedAt; omega)

/-- The lock that a guard goes for. -/
def goes (s : Gs) : Int := atI s.l s.h
/-- Does a guard stand in lock k's row: has it it, or a ticket of it? -/
def Ins (s : Gs) (k : Nat) : Prop := (k : Int) ∈ heldL s ∨ (s.d = true ∧ goes s = (k : Int))

/-- n guards, m steps behind the first; T tells their tickets. -/
structure Inv (n : Nat) (ss : Nat → Gs) (vs : List Nat) (done : Nat → Bool) (T : Nat → Nat → Nat) (m : Nat) : Prop where
  len : vs.length = 20
  rise : ∀ i, i < n → (ss i).l.Pairwise (· < ·)
  six : ∀ i, i < n → ∀ x ∈ (ss i).l, 0 ≤ x ∧ x < 6
  le : ∀ i, i < n → (ss i).h ≤ (ss i).l.length
  dlt : ∀ i, i < n → (ss i).d = true → (ss i).h < (ss i).l.length
  tk : ∀ i k, i < n → (ss i).d = true → goes (ss i) = ((k : Nat) : Int) → T i k = (ss i).t
  rng : ∀ i k, i < n → k < 6 → Ins (ss i) k → srv vs k ≤ T i k ∧ T i k < nxt vs k
  inj : ∀ i j k, i < n → j < n → k < 6 → Ins (ss i) k → Ins (ss j) k → T i k = T j k → i = j
  ex : ∀ k t, k < 6 → srv vs k ≤ t → t < nxt vs k → ∃ i, i < n ∧ Ins (ss i) k ∧ T i k = t
  top : ∀ i k, i < n → ((k : Nat) : Int) ∈ heldL (ss i) → T i k = srv vs k
  sv : ∀ k, k < 6 → srv vs k ≤ nxt vs k
  bd : ∀ k, k < 6 → nxt vs k ≤ m
  fin : ∀ i, i < n → done i = true → (ss i).l = []

/-- What a guard is behind a draw, behind a lock that it got, behind one that it gave back. -/
def drawS (s : Gs) (x : Nat) : Gs := ⟨s.l, s.h, true, x⟩
def mineS (s : Gs) : Gs := ⟨s.l, s.h + 1, false, 0⟩
def backS (s : Gs) (p : Nat) : Gs := ⟨s.l.take p, p, s.d, s.t⟩
theorem held_sub {s : Gs} {x : Int} (h : x ∈ heldL s) : x ∈ s.l := List.mem_of_mem_take h
theorem held_lt {s : Gs} (hr : s.l.Pairwise (· < ·)) (hlt : s.h < s.l.length) {x : Int} (h : x ∈ heldL s) : x < goes s := by
  rw [heldL, List.mem_iff_getElem] at h
  obtain ⟨p, hp, rfl⟩ := h
  rw [List.length_take] at hp
  rw [List.getElem_take, goes, atI_of hlt]
  exact List.pairwise_iff_getElem.1 hr p s.h (by omega) hlt (by omega)
section
variable {n m : Nat} {ss : Nat → Gs} {vs : List Nat} {done : Nat → Bool} {T : Nat → Nat → Nat}
theorem Inv.goes_nat (h : Inv n ss vs done T m) {i : Nat} (hi : i < n) (hlt : (ss i).h < (ss i).l.length) : ∃ k, k < 6 ∧ goes (ss i) = ((k : Nat) : Int) := by
  have := h.six i hi _ (atI_mem hlt)
  obtain ⟨k, hk⟩ := Int.eq_ofNat_of_zero_le this.1
  exact ⟨k, by omega, hk⟩
theorem Inv.held6 (h : Inv n ss vs done T m) {i : Nat} (hi : i < n) {x : Int} (hx : x ∈ heldL (ss i)) : ∃ k, k < 6 ∧ x = ((k : Nat) : Int) := by
  have := h.six i hi _ (held_sub hx)
  obtain ⟨k, hk⟩ := Int.eq_ofNat_of_zero_le this.1
  exact ⟨k, by omega, hk⟩
theorem Inv.sle (h : Inv n ss vs done T m) {k : Nat} (hk : k < 6) : srv vs k ≤ m := Nat.le_trans (h.sv k hk) (h.bd k hk)
/-- What all this says of the locks that guards have. -/
theorem Inv.parted (h : Inv n ss vs done T m) : Parted n ss := by
  refine ⟨fun i hi x hx => h.six i hi x (held_sub hx), fun i hi => ((h.rise i hi).sublist (List.take_sublist _ _)).imp (fun hlt => by omega), fun i j hi hj hne x hx hy => ?_⟩
  obtain ⟨k, hk, rfl⟩ := h.held6 hi hx
  exact hne (h.inj i j k hi hj hk (.inl hx) (.inl hy) ((h.top i k hi hx).trans (h.top j k hj hy).symm))
theorem Inv.later (h : Inv n ss vs done T m) : Inv n ss vs done T (m + 1) :=
  ⟨h.len, h.rise, h.six, h.le, h.dlt, h.tk, h.rng, h.inj, h.ex, h.top, h.sv, fun k hk => Nat.le_succ_of_le (h.bd k hk), h.fin⟩

theorem Inv.draw (h : Inv n ss vs done T m) {i k : Nat} (hi : i < n) (hlt : (ss i).h < (ss i).l.length) (hd : (ss i).d = false) (hk : k < 6) (hg : goes (ss i) = (k : Int)) :
    Inv n (upd ss i (drawS (ss i) (nxt vs k))) (vs.set (nextAt 4 k) (nxt vs k + 1)) done (fun j q => if j = i ∧ q = k then nxt vs k else T j q) (m + 1) := by
  have hnot : (k : Int) ∉ heldL (ss i) := fun hx => by have := held_lt (h.rise i hi) hlt hx; omega
  have hI : ∀ j q, Ins (upd ss i (drawS (ss i) (nxt vs k)) j) q → (j = i ∧ q = k) ∨ (¬ (j = i ∧ q = k) ∧ Ins (ss j) q) := fun j q hq => by
    by_cases e : j = i
    · subst e
      rw [upd_same] at hq
      rcases hq with hq | ⟨-, hq⟩
      · by_cases e2 : q = k
        · exact .inl ⟨rfl, e2⟩
        · exact .inr ⟨fun hh => e2 hh.2, .inl hq⟩
      · refine .inl ⟨rfl, ?_⟩
        have hq' : goes (ss j) = (q : Int) := hq
        rw [hg] at hq'
        omega
    · rw [upd_ne _ _ e] at hq
      exact .inr ⟨fun hh => e hh.1, hq⟩
  have hB : ∀ j q, Ins (ss j) q → Ins (upd ss i (drawS (ss i) (nxt vs k)) j) q := fun j q hq => by
    by_cases e : j = i
    · subst e
      rw [upd_same]
      rcases hq with hq | ⟨hq, -⟩
      · exact .inl hq
      · rw [hd] at hq; cases hq
    · rw [upd_ne _ _ e]; exact hq
  have hl : ∀ j, (upd ss i (drawS (ss i) (nxt vs k)) j).l = (ss j).l := fun j => by
    by_cases e : j = i
    · subst e; rw [upd_same]; rfl
    · rw [upd_ne _ _ e]
  have hh : ∀ j, (upd ss i (drawS (ss i) (nxt vs k)) j).h = (ss j).h := fun j => by
    by_cases e : j = i
    · subst e; rw [upd_same]; rfl
    · rw [upd_ne _ _ e]
  have hH : ∀ j, heldL (upd ss i (drawS (ss i) (nxt vs k)) j) = heldL (ss j) := fun j => by rw [heldL, hl, hh]; rfl
  refine ⟨by rw [List.length_set]; exact h.len, fun j hj => by rw [hl]; exact h.rise j hj, fun j hj => by rw [hl]; exact h.six j hj, fun j hj => by rw [hl, hh]; exact h.le j hj, fun j hj hdj => ?_, fun j q hj hdj hq => ?_, fun j q hj hq hin => ?_, fun j p q hj hp hq h1 h2 he => ?_, fun q t hq h1 h2 => ?_, fun j q hj hq => ?_, fun q hq => ?_, fun q hq => ?_, fun j hj hdn => by rw [hl]; exact h.fin j hj hdn⟩
  · rw [hl, hh]
    by_cases e : j = i
    · subst e; exact hlt
    · rw [upd_ne _ _ e] at hdj; exact h.dlt j hj hdj
  · by_cases e : j = i
    · subst e
      rw [upd_same] at hq
      have hq' : goes (ss j) = (q : Int) := hq
      rw [hg] at hq'
      rw [upd_same, if_pos ⟨rfl, by omega⟩]
      rfl
    · rw [upd_ne _ _ e] at hdj hq
      rw [upd_ne _ _ e, if_neg (fun hh => e hh.1)]; exact h.tk j q hj hdj hq
  · rw [srv_draw, nxt_draw h.len hk]
    rcases hI j q hin with hh | ⟨hh, hin⟩
    · rw [if_pos hh, if_pos hh.2, hh.2]
      have := h.sv k hk
      omega
    · rw [if_neg hh]
      have := h.rng j q hj hq hin
      refine ⟨this.1, ?_⟩
      split
      · rename_i e; subst e; omega
      · exact this.2
  · rcases hI j q h1 with a | ⟨a, b⟩
    · rcases hI p q h2 with c | ⟨c, d⟩
      · rw [a.1, c.1]
      · rw [if_pos a, if_neg c] at he
        have := (h.rng p q hp hq d).2
        rw [a.2] at this he; omega
    · rcases hI p q h2 with c | ⟨c, d⟩
      · rw [if_neg a, if_pos c] at he
        have := (h.rng j q hj hq b).2
        rw [c.2] at this he; omega
      · rw [if_neg a, if_neg c] at he
        exact h.inj j p q hj hp hq b d he
  · rw [srv_draw] at h1
    rw [nxt_draw h.len hk] at h2
    by_cases e : q = k ∧ t = nxt vs k
    · refine ⟨i, hi, ?_, by rw [if_pos ⟨rfl, e.1⟩]; exact e.2.symm⟩
      rw [upd_same, e.1]; exact .inr ⟨rfl, hg⟩
    · obtain ⟨j, hj, hin, ht⟩ := h.ex q t hq h1 (by
        by_cases hqk : q = k
        · subst hqk; rw [if_pos rfl] at h2; have : t ≠ nxt vs q := fun hh => e ⟨rfl, hh⟩; omega
        · rw [if_neg hqk] at h2; exact h2)
      refine ⟨j, hj, hB j q hin, ?_⟩
      rw [if_neg (fun hh => ?_)]
      · exact ht
      · obtain ⟨rfl, rfl⟩ := hh
        rcases hin with hin | ⟨hin, -⟩
        · exact hnot hin
        · rw [hd] at hin; cases hin
  · rw [hH] at hq
    rw [srv_draw, if_neg (fun hh => by obtain ⟨rfl, rfl⟩ := hh; exact hnot hq)]
    exact h.top j q hj hq
  · rw [srv_draw, nxt_draw h.len hk]
    have := h.sv q hq
    split
    · rename_i e; subst e; omega
    · exact this
  · rw [nxt_draw h.len hk]
    have := h.bd q hq
    split
    · rename_i e; subst e; omega
    · omega

theorem take_more {s : Gs} (hlt : s.h < s.l.length) : s.l.take (s.h + 1) = heldL s ++ [goes s] := take_snocI hlt
theorem Inv.mine (h : Inv n ss vs done T m) {i k : Nat} (hi : i < n) (hd : (ss i).d = true) (hk : k < 6) (hg : goes (ss i) = (k : Int)) (ht : srv vs k = (ss i).t) :
    Inv n (upd ss i (mineS (ss i))) vs done T (m + 1) := by
  have hlt := h.dlt i hi hd
  have hH : heldL (mineS (ss i)) = heldL (ss i) ++ [(k : Int)] := by rw [← hg]; exact take_more hlt
  have hI : ∀ j q, Ins (upd ss i (mineS (ss i)) j) q ↔ Ins (ss j) q := fun j q => by
    by_cases e : j = i
    · subst e
      rw [upd_same, Ins, Ins, hH, hd, hg]
      constructor
      · rintro (hq | ⟨hq, -⟩)
        · rw [List.mem_append, List.mem_singleton] at hq
          rcases hq with hq | hq
          · exact .inl hq
          · exact .inr ⟨rfl, by omega⟩
        · cases hq
      · rintro (hq | ⟨-, hq⟩)
        · exact .inl (List.mem_append_left _ hq)
        · exact .inl (List.mem_append_right _ (by rw [hq]; simp))
    · rw [upd_ne _ _ e]
  have hl : ∀ j, (upd ss i (mineS (ss i)) j).l = (ss j).l := fun j => by
    by_cases e : j = i
    · subst e; rw [upd_same]; rfl
    · rw [upd_ne _ _ e]
  refine ⟨h.len, fun j hj => by rw [hl]; exact h.rise j hj, fun j hj => by rw [hl]; exact h.six j hj, fun j hj => ?_, fun j hj hdj => ?_, fun j q hj hdj hq => ?_, fun j q hj hq hin => h.rng j q hj hq ((hI j q).1 hin), fun j p q hj hp hq h1 h2 he => h.inj j p q hj hp hq ((hI j q).1 h1) ((hI p q).1 h2) he, fun q t hq h1 h2 => ?_, fun j q hj hq => ?_, h.sv, fun q hq => Nat.le_succ_of_le (h.bd q hq), fun j hj hdn => by rw [hl]; exact h.fin j hj hdn⟩
  · rw [hl]
    by_cases e : j = i
    · subst e; rw [upd_same]; exact hlt
    · rw [upd_ne _ _ e]; exact h.le j hj
  · by_cases e : j = i
    · subst e; rw [upd_same] at hdj; cases hdj
    · rw [upd_ne _ _ e] at hdj ⊢; exact h.dlt j hj hdj
  · by_cases e : j = i
    · subst e; rw [upd_same] at hdj; cases hdj
    · rw [upd_ne _ _ e] at hdj hq ⊢; exact h.tk j q hj hdj hq
  · obtain ⟨j, hj, hin, he⟩ := h.ex q t hq h1 h2
    exact ⟨j, hj, (hI j q).2 hin, he⟩
  · by_cases e : j = i
    · subst e
      rw [upd_same, hH, List.mem_append, List.mem_singleton] at hq
      rcases hq with hq | hq
      · exact h.top j q hj hq
      · obtain rfl : q = k := by omega
        rw [h.tk j q hj hd hg, ht]
    · rw [upd_ne _ _ e] at hq; exact h.top j q hj hq

theorem Inv.give (h : Inv n ss vs done T m) {i k p : Nat} (hi : i < n) (hp : (ss i).h = p + 1) (hall : (ss i).h = (ss i).l.length) (hk : k < 6) (hg : atI (ss i).l p = (k : Int)) :
    Inv n (upd ss i (backS (ss i) p)) (vs.set (servedAt 4 k) (srv vs k + 1)) (upd done i (decide (p = 0))) T (m + 1) := by
  have hd : (ss i).d = false := by
    cases e : (ss i).d with
    | false => rfl
    | true => have := h.dlt i hi e; omega
  have hpl : p < (ss i).l.length := by omega
  have hH0 : heldL (ss i) = (ss i).l.take p ++ [(k : Int)] := by rw [heldL, hp, take_snocI hpl, hg]
  have hH : heldL (backS (ss i) p) = (ss i).l.take p := by rw [heldL]; exact List.take_of_length_le (by show ((ss i).l.take p).length ≤ p; rw [List.length_take]; exact Nat.min_le_left _ _)
  have hkin : (k : Int) ∈ heldL (ss i) := by rw [hH0]; simp
  have hTk := h.top i k hi hkin
  have hnot : (k : Int) ∉ (ss i).l.take p := fun hx => by
    rw [List.mem_iff_getElem] at hx
    obtain ⟨q, hq, he⟩ := hx
    rw [List.length_take] at hq
    rw [List.getElem_take] at he
    have := List.pairwise_iff_getElem.1 (h.rise i hi) q p (by omega) hpl (by omega)
    rw [atI_of hpl] at hg
    omega
  have hI : ∀ j q, Ins (upd ss i (backS (ss i) p) j) q → Ins (ss j) q ∧ ¬ (j = i ∧ q = k) := fun j q hq => by
    by_cases e : j = i
    · subst e
      rw [upd_same, Ins, hH] at hq
      rcases hq with hq | ⟨hq, -⟩
      · exact ⟨.inl (by rw [hH0]; exact List.mem_append_left _ hq), fun hh => hnot (hh.2 ▸ hq)⟩
      · have hq' : (ss j).d = true := hq
        rw [hd] at hq'; cases hq'
    · rw [upd_ne _ _ e] at hq; exact ⟨hq, fun hh => e hh.1⟩
  have hB : ∀ j q, Ins (ss j) q → ¬ (j = i ∧ q = k) → Ins (upd ss i (backS (ss i) p) j) q := fun j q hq hne => by
    by_cases e : j = i
    · subst e
      rw [upd_same, Ins, hH]
      rcases hq with hq | ⟨hq, -⟩
      · rw [hH0, List.mem_append, List.mem_singleton] at hq
        rcases hq with hq | hq
        · exact .inl hq
        · exact absurd ⟨rfl, by omega⟩ hne
      · rw [hd] at hq; cases hq
    · rw [upd_ne _ _ e]; exact hq
  have hoth : ∀ j, j < n → Ins (ss j) k → j ≠ i → srv vs k < T j k := fun j hj hin hne => by
    have h1 := (h.rng j k hj hk hin).1
    have h2 : T j k ≠ srv vs k := fun he => hne (h.inj j i k hj hi hk hin (.inl hkin) (he.trans hTk.symm))
    omega
  refine ⟨by rw [List.length_set]; exact h.len, fun j hj => ?_, fun j hj => ?_, fun j hj => ?_, fun j hj hdj => ?_, fun j q hj hdj hq => ?_, fun j q hj hq hin => ?_, fun j r q hj hr hq h1 h2 he => h.inj j r q hj hr hq (hI j q h1).1 (hI r q h2).1 he, fun q t hq h1 h2 => ?_, fun j q hj hq => ?_, fun q hq => ?_, fun q hq => ?_, fun j hj hdn => ?_⟩
  · by_cases e : j = i
    · subst e; rw [upd_same]; exact (h.rise j hj).sublist (List.take_sublist _ _)
    · rw [upd_ne _ _ e]; exact h.rise j hj
  · by_cases e : j = i
    · subst e; rw [upd_same]; exact fun x hx => h.six j hj x (List.mem_of_mem_take hx)
    · rw [upd_ne _ _ e]; exact h.six j hj
  · by_cases e : j = i
    · subst e; rw [upd_same]; show p ≤ ((ss j).l.take p).length; rw [List.length_take]; omega
    · rw [upd_ne _ _ e]; exact h.le j hj
  · by_cases e : j = i
    · subst e; rw [upd_same] at hdj; have hq' : (ss j).d = true := hdj; rw [hd] at hq'; cases hq'
    · rw [upd_ne _ _ e] at hdj ⊢; exact h.dlt j hj hdj
  · by_cases e : j = i
    · subst e; rw [upd_same] at hdj; have hq' : (ss j).d = true := hdj; rw [hd] at hq'; cases hq'
    · rw [upd_ne _ _ e] at hdj hq ⊢; exact h.tk j q hj hdj hq
  · obtain ⟨hin, hne⟩ := hI j q hin
    rw [srv_give h.len hk, nxt_give]
    have := h.rng j q hj hq hin
    refine ⟨?_, this.2⟩
    split
    · rename_i e; subst e
      exact hoth j hj hin (fun e => hne ⟨e, rfl⟩)
    · exact this.1
  · rw [srv_give h.len hk] at h1
    rw [nxt_give] at h2
    obtain ⟨j, hj, hin, ht⟩ := h.ex q t hq (by
      by_cases hqk : q = k
      · subst hqk; rw [if_pos rfl] at h1; omega
      · rw [if_neg hqk] at h1; exact h1) h2
    refine ⟨j, hj, hB j q hin (fun hh => ?_), ht⟩
    obtain ⟨rfl, rfl⟩ := hh
    rw [if_pos rfl] at h1
    omega
  · have hin : Ins (ss j) q ∧ ¬ (j = i ∧ q = k) := hI j q (.inl hq)
    have hq' : (q : Int) ∈ heldL (ss j) := by
      by_cases e : j = i
      · subst e; rw [upd_same, hH] at hq; rw [hH0]; exact List.mem_append_left _ hq
      · rw [upd_ne _ _ e] at hq; exact hq
    rw [srv_give h.len hk]
    split
    · rename_i e; subst e
      have := hoth j hj hin.1 (fun e => hin.2 ⟨e, rfl⟩)
      have := h.top j q hj hq'
      omega
    · exact h.top j q hj hq'
  · rw [srv_give h.len hk, nxt_give]
    split
    · rename_i e; subst e
      have := h.rng i q hi hq (.inl hkin)
      omega
    · exact h.sv q hq
  · rw [nxt_give]; exact Nat.le_succ_of_le (h.bd q hq)
  · by_cases e : j = i
    · subst e
      rw [upd_same] at hdn ⊢
      have : p = 0 := of_decide_eq_true hdn
      subst this; rfl
    · rw [upd_ne _ _ e] at hdn ⊢; exact h.fin j hj hdn
end
end Go.Proofs.Ytbjfongjdlankaa
