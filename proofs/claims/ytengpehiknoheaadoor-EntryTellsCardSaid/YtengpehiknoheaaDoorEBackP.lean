/-
  What was put is got, and what is got is put as it stood; pure.
-/
import Derived.Test.YtengpehiknoheaaDoorEGet
namespace Go.Proofs.YtengpehiknoheaaDoor
open Oct

theorem body_back {x : En} {r : List UInt8} : ∀ {ns : List Nat} {y : En}, (∀ n ∈ ns, n < 13 ∧ I64b (x.get n) ∧ mayN n (x.get n) = true) → bodyR ns y (bodyL (pairsOf x ns) ++ r) = some (layAll y (pairsOf x ns), r)
  | [], y, _ => rfl
  | n :: ns, y, h => by
    obtain ⟨h1, h2, h3⟩ := h n (List.mem_cons_self ..)
    have e : bodyL (pairsOf x (n :: ns)) ++ r = putN n (x.get n) ++ (bodyL (pairsOf x ns) ++ r) := by simp [bodyL, pairsOf]
    rw [e]
    unfold bodyR
    rw [get_putN h1 h2 h3]
    simp only [h3, and_self, if_true]
    exact body_back fun m hm => h m (List.mem_cons_of_mem _ hm)
theorem rowR2_put {a k : Nat} (ha : a < 2 ^ 64) (hk : k < 2 ^ 64) (r : List UInt8) : rowR 2 ((numL a ++ numL k) ++ r) = ([a, k], r, 0) := by
  rw [List.append_assoc]
  show rowG 2 [] _ = _
  unfold rowG
  rw [getR_numL ha]
  simp only [ne_eq, not_true, if_false]
  unfold rowG
  rw [getR_numL hk]
  rfl
theorem read_put {x : En} (hx : x.ok) (h : okB x = true) (r : List UInt8) : readR (enL x ++ r) = some (x, r) := by
  obtain ⟨h1, h2, h3, h4⟩ := okB_iff.1 h
  have hr : rowR 2 (enL x ++ r) = ([x.a.toNat, x.k], bodyL (pairsOf x (namesOf x.k)) ++ r, 0) := by
    unfold enL
    rw [List.append_assoc]
    exact rowR2_put (by have := hx.a; unfold I64b at this; omega) (by have := hx.k; omega) _
  have hh : headB (enL x ++ r) = true := by
    unfold headB
    rw [hr]
    have := hx.a
    have := hx.k
    unfold I64b at *
    simp
    omega
  have hX : headX (enL x ++ r) = En.only x.a x.k := by
    unfold headX
    rw [hr]
    show En.only (x.a.toNat : Int) x.k = _
    rw [Int.toNat_of_nonneg h3]
  unfold readR
  rw [if_pos hh, hX, hr]
  show (match bodyR (namesOf x.k) (En.only x.a x.k) (bodyL (pairsOf x (namesOf x.k)) ++ r) with | some p => if known x.k = true then some p else none | none => none) = _
  rw [body_back (fun n hn => ⟨namesOf_lt hn, hx.get n, h2 n hn⟩), ok_lay h, h1]
  rfl
theorem body_fore {r : List UInt8} {z : En} : ∀ {ns : List Nat} {y : En} {l : List UInt8}, (∀ n ∈ ns, n < 13) → bodyR ns y l = some (z, r) →
    ∃ ps : List (Nat × Int), ps.map (·.1) = ns ∧ (∀ p ∈ ps, I64b p.2) ∧ (∀ p ∈ ps, mayN p.1 p.2 = true) ∧ layAll y ps = z ∧ bodyL ps ++ r = l
  | [], y, l, _, h => by
    unfold bodyR at h
    simp only [Option.some.injEq, Prod.mk.injEq] at h
    obtain ⟨rfl, rfl⟩ := h
    exact ⟨[], rfl, by simp, by simp, rfl, rfl⟩
  | n :: ns, y, l, hn, h => by
    unfold bodyR at h
    split at h
    · rename_i hc
      obtain ⟨ps, h1, h2, h3, h4, h5⟩ := body_fore (fun m hm => hn m (List.mem_cons_of_mem _ hm)) h
      refine ⟨(n, (getN n l).1) :: ps, by simp [h1], ?_, ?_, h4, ?_⟩
      · intro p hp
        rcases List.mem_cons.1 hp with rfl | hp
        · exact getN_b n l
        · exact h2 p hp
      · intro p hp
        rcases List.mem_cons.1 hp with rfl | hp
        · exact hc.2
        · exact h3 p hp
      · have e : getN n l = ((getN n l).1, (getN n l).2.1, 0) := by rw [← hc.1]
        have := put_getN (hn n (List.mem_cons_self ..)) e hc.2
        have e2 : bodyL ((n, (getN n l).1) :: ps) ++ r = putN n (getN n l).1 ++ (bodyL ps ++ r) := by simp [bodyL]
        rw [e2, h5, this]
    · exact absurd h (by simp)
theorem rowR2_fore {l : List UInt8} {e : Nat} (h : (rowR 2 l).2.2 = e) (he : e = 0) : ∃ a k r, rowR 2 l = ([a, k], r, 0) ∧ (numL a ++ numL k) ++ r = l := by
  subst he
  obtain ⟨a, r1, e1, h1⟩ : ∃ a r1 e1, getR l = (a, r1, e1) := ⟨_, _, _, rfl⟩
  obtain ⟨k, r2, e2, h2⟩ : ∃ k r2 e2, getR r1 = (k, r2, e2) := ⟨_, _, _, rfl⟩
  have hr : rowR 2 l = if e1 ≠ 0 then ([], [], e1) else if e2 ≠ 0 then ([], [], e2) else ([a, k], r2, 0) := by
    show rowG 2 [] l = _
    unfold rowG
    rw [h1]
    simp only
    unfold rowG
    rw [h2]
    rfl
  rw [hr] at h ⊢
  by_cases q1 : e1 = 0
  · subst q1
    simp only [ne_eq, not_true, if_false] at h ⊢
    by_cases q2 : e2 = 0
    · subst q2
      refine ⟨a, k, r2, rfl, ?_⟩
      rw [List.append_assoc, (getR_back h2).1, (getR_back h1).1]
    · rw [if_pos q2] at h; exact absurd h q2
  · rw [if_pos q1] at h; exact absurd h q1
theorem read_fore {l r : List UInt8} {x : En} (h : readR l = some (x, r)) : x.ok ∧ okB x = true ∧ enL x ++ r = l := by
  unfold readR at h
  split at h
  · rename_i hh
    have hh0 : (rowR 2 l).2.2 = 0 := by simp [headB] at hh; exact hh.1
    obtain ⟨a, k, r1, hr, hl⟩ := rowR2_fore hh0 rfl
    have hb : a ≤ 9223372036854775807 ∧ k ≤ 255 := by
      unfold headB at hh
      rw [hr] at hh
      simpa using hh
    have hX : headX l = En.only (a : Int) k := by unfold headX; rw [hr]; rfl
    rw [hX, hr] at h
    split at h
    · rename_i p hp
      split at h
      · rename_i hk
        obtain rfl := (Option.some.inj h)
        have hk' : known k = true := hk
        obtain ⟨ps, h1, h2, h3, h4, h5⟩ := body_fore (fun n hn => namesOf_lt hn) hp
        have hlay := okB_lay (a := (a : Int)) hk' (by omega) h1 h2 h3
        rw [h4] at hlay
        obtain ⟨ya, yk⟩ := lay_a ps (En.only (a : Int) k)
        rw [h4] at ya yk
        have ya' : x.a = (a : Int) := ya
        have yk' : x.k = k := yk
        refine ⟨?_, hlay.1, ?_⟩
        · rw [← h4]
          exact lay_ok h2 (En.ok_only ⟨by omega, by omega⟩ (by omega))
        · unfold enL
          rw [ya', yk', hlay.2, List.append_assoc, h5, Int.toNat_natCast]
          exact hl
      · exact absurd h (by simp)
    · exact absurd h (by simp)
  · exact absurd h (by simp)
theorem enL_ne {x : En} : enL x ≠ [] := by
  intro h
  have := congrArg List.length h
  have h2 := numL_ne x.a.toNat
  unfold enL at this
  rw [List.length_append, List.length_append, List.length_nil] at this
  omega
theorem get_of_put {l : List En} (hx : ∀ x ∈ l, x.ok) (h : l.all okB = true) : getL (l.flatMap enL) = some l := by
  induction l with
  | nil => rfl
  | cons x l ih =>
    simp only [List.all_cons, Bool.and_eq_true] at h
    rw [List.flatMap_cons, getL_some (by simp [enL_ne]) (read_put (hx x (List.mem_cons_self ..)) h.1 _), ih (fun y hy => hx y (List.mem_cons_of_mem _ hy)) h.2]
    rfl
theorem put_of_get : ∀ (f : Nat) {s : List UInt8} {l : List En}, s.length ≤ f → getL s = some l → (∀ x ∈ l, x.ok) ∧ l.all okB = true ∧ l.flatMap enL = s
  | 0, s, l, hf, h => by
    obtain rfl : s = [] := List.length_eq_zero_iff.1 (by omega)
    rw [getL_nil] at h
    obtain rfl := Option.some.inj h
    simp
  | f + 1, s, l, hf, h => by
    by_cases h0 : s = []
    · subst h0
      rw [getL_nil] at h
      obtain rfl := Option.some.inj h
      simp
    · cases hr : readR s with
      | none => rw [getL_none h0 hr] at h; exact absurd h (by simp)
      | some p =>
        obtain ⟨x, r⟩ := p
        rw [getL_some h0 hr] at h
        cases hg : getL r with
        | none => rw [hg] at h; exact absurd h (by simp)
        | some t =>
          rw [hg] at h
          obtain rfl := Option.some.inj h
          obtain ⟨a1, a2, a3⟩ := read_fore hr
          obtain ⟨b1, b2, b3⟩ := put_of_get f (by have := read_rest hr; omega) hg
          refine ⟨?_, ?_, ?_⟩
          · intro y hy
            rcases List.mem_cons.1 hy with rfl | hy
            · exact a1
            · exact b1 y hy
          · simp [a2, b2]
          · rw [List.flatMap_cons, b3, a3]
/-- None's bytes begin with another one's. -/
theorem enL_pre {x y : En} {r : List UInt8} (h1 : x.ok) (h2 : y.ok) (hx : okB x = true) (hy : okB y = true) (h : enL x ++ r = enL y) : x = y := by
  have a := read_put h1 hx r
  have b := read_put h2 hy []
  rw [List.append_nil, ← h, a] at b
  simp only [Option.some.injEq, Prod.mk.injEq] at b
  exact b.1
theorem enL_inj {x y : En} (h1 : x.ok) (h2 : y.ok) (hx : okB x = true) (hy : okB y = true) (h : enL x = enL y) : x = y := enL_pre (r := []) h1 h2 hx hy (by rw [List.append_nil, h])
end Go.Proofs.YtengpehiknoheaaDoor
