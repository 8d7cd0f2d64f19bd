/-
  Frames: where a task is, and its registers; what instructions do to them; pure.
-/
import Derived.Test.YtamkmmpockmpfaaGAt
namespace Go.Proofs.Ytamkmmpockmpfaa
open Go.RowKit

/-- A frame: its code, its instruction, eight registers. -/
structure Fra where
  c : Int
  p : Int
  r0 : Int
  r1 : Int
  r2 : Int
  r3 : Int
  r4 : Int
  r5 : Int
  r6 : Int
  r7 : Int
structure Fra.ok (f : Fra) : Prop where
  c : I64b f.c
  p : I64b f.p
  r0 : I64b f.r0
  r1 : I64b f.r1
  r2 : I64b f.r2
  r3 : I64b f.r3
  r4 : I64b f.r4
  r5 : I64b f.r5
  r6 : I64b f.r6
  r7 : I64b f.r7
def Fra.get (f : Fra) : Nat → Int
  | 0 => f.r0
  | 1 => f.r1
  | 2 => f.r2
  | 3 => f.r3
  | 4 => f.r4
  | 5 => f.r5
  | 6 => f.r6
  | _ => f.r7
def Fra.put (f : Fra) (n : Nat) (v : Int) : Fra := match n with
  | 0 => { f with r0 := v }
  | 1 => { f with r1 := v }
  | 2 => { f with r2 := v }
  | 3 => { f with r3 := v }
  | 4 => { f with r4 := v }
  | 5 => { f with r5 := v }
  | 6 => { f with r6 := v }
  | _ => { f with r7 := v }
def Fra.goto (f : Fra) (v : Int) : Fra := { f with p := v }
def Fra.zero : Fra := ⟨0, 0, 0, 0, 0, 0, 0, 0, 0, 0⟩
def Fra.at0 (c : Int) (f : Fra) : Fra := ⟨c, 0, f.r0, f.r1, f.r2, f.r3, f.r4, f.r5, f.r6, f.r7⟩
def regsL (f : Fra) : List Value := [.int .i64 f.r0, .int .i64 f.r1, .int .i64 f.r2, .int .i64 f.r3, .int .i64 f.r4, .int .i64 f.r5, .int .i64 f.r6, .int .i64 f.r7]
def fraL (f : Fra) : List Value := .int .i64 f.c :: .int .i64 f.p :: regsL f
/-- A frame as a value. -/
abbrev fraV (f : Fra) : Value := .agg #[.int .i64 f.c, .int .i64 f.p, .int .i64 f.r0, .int .i64 f.r1, .int .i64 f.r2, .int .i64 f.r3, .int .i64 f.r4, .int .i64 f.r5, .int .i64 f.r6, .int .i64 f.r7]
abbrev fraA (f : Fra) : Array Value := #[.int .i64 f.c, .int .i64 f.p, .int .i64 f.r0, .int .i64 f.r1, .int .i64 f.r2, .int .i64 f.r3, .int .i64 f.r4, .int .i64 f.r5, .int .i64 f.r6, .int .i64 f.r7]
abbrev regA (f : Fra) : Array Value := #[.int .i64 f.r0, .int .i64 f.r1, .int .i64 f.r2, .int .i64 f.r3, .int .i64 f.r4, .int .i64 f.r5, .int .i64 f.r6, .int .i64 f.r7]
theorem fra_set (f : Fra) {n : Nat} (hn : n < 8) (v : Int) : (fraA f).setIfInBounds (2 + n) (.int .i64 v) = fraA (f.put n v) := by
  have : n = 0 ∨ n = 1 ∨ n = 2 ∨ n = 3 ∨ n = 4 ∨ n = 5 ∨ n = 6 ∨ n = 7 := by omega
  rcases this with rfl | rfl | rfl | rfl | rfl | rfl | rfl | rfl <;> rfl
theorem reg_set (f : Fra) {n : Nat} (hn : n < 8) (v : Int) : (regA f).setIfInBounds n (.int .i64 v) = regA (f.put n v) := by
  have : n = 0 ∨ n = 1 ∨ n = 2 ∨ n = 3 ∨ n = 4 ∨ n = 5 ∨ n = 6 ∨ n = 7 := by omega
  rcases this with rfl | rfl | rfl | rfl | rfl | rfl | rfl | rfl <;> rfl
theorem fra_get (f : Fra) {n : Nat} (hn : n < 8) : (fraA f)[2 + n]? = some (.int .i64 (f.get n)) := by
  have : n = 0 ∨ n = 1 ∨ n = 2 ∨ n = 3 ∨ n = 4 ∨ n = 5 ∨ n = 6 ∨ n = 7 := by omega
  rcases this with rfl | rfl | rfl | rfl | rfl | rfl | rfl | rfl <;> rfl
theorem reg_get (f : Fra) {n : Nat} (hn : n < 8) : (regA f)[n]? = some (.int .i64 (f.get n)) := by
  have : n = 0 ∨ n = 1 ∨ n = 2 ∨ n = 3 ∨ n = 4 ∨ n = 5 ∨ n = 6 ∨ n = 7 := by omega
  rcases this with rfl | rfl | rfl | rfl | rfl | rfl | rfl | rfl <;> rfl
theorem fra_pc (f : Fra) (v : Int) : (fraA f).setIfInBounds 1 (.int .i64 v) = fraA (f.goto v) := rfl
theorem put_c (f : Fra) (n : Nat) (v : Int) : (f.put n v).c = f.c := by unfold Fra.put; split <;> rfl
theorem put_p (f : Fra) (n : Nat) (v : Int) : (f.put n v).p = f.p := by unfold Fra.put; split <;> rfl
theorem get_put (f : Fra) {n m : Nat} (hn : n < 8) (hm : m < 8) (v : Int) : (f.put n v).get m = if m = n then v else f.get m := by
  have h1 : n = 0 ∨ n = 1 ∨ n = 2 ∨ n = 3 ∨ n = 4 ∨ n = 5 ∨ n = 6 ∨ n = 7 := by omega
  have h2 : m = 0 ∨ m = 1 ∨ m = 2 ∨ m = 3 ∨ m = 4 ∨ m = 5 ∨ m = 6 ∨ m = 7 := by omega
  rcases h1 with rfl | rfl | rfl | rfl | rfl | rfl | rfl | rfl <;> rcases h2 with rfl | rfl | rfl | rfl | rfl | rfl | rfl | rfl <;> rfl
theorem Fra.ok.get {f : Fra} (h : f.ok) (n : Nat) : I64b (f.get n) := by
  unfold Fra.get
  split
  · exact h.r0
  · exact h.r1
  · exact h.r2
  · exact h.r3
  · exact h.r4
  · exact h.r5
  · exact h.r6
  · exact h.r7
theorem Fra.ok.put {f : Fra} (h : f.ok) (n : Nat) {v : Int} (hv : I64b v) : (f.put n v).ok := by
  unfold Fra.put
  split
  · exact ⟨h.c, h.p, hv, h.r1, h.r2, h.r3, h.r4, h.r5, h.r6, h.r7⟩
  · exact ⟨h.c, h.p, h.r0, hv, h.r2, h.r3, h.r4, h.r5, h.r6, h.r7⟩
  · exact ⟨h.c, h.p, h.r0, h.r1, hv, h.r3, h.r4, h.r5, h.r6, h.r7⟩
  · exact ⟨h.c, h.p, h.r0, h.r1, h.r2, hv, h.r4, h.r5, h.r6, h.r7⟩
  · exact ⟨h.c, h.p, h.r0, h.r1, h.r2, h.r3, hv, h.r5, h.r6, h.r7⟩
  · exact ⟨h.c, h.p, h.r0, h.r1, h.r2, h.r3, h.r4, hv, h.r6, h.r7⟩
  · exact ⟨h.c, h.p, h.r0, h.r1, h.r2, h.r3, h.r4, h.r5, hv, h.r7⟩
  · exact ⟨h.c, h.p, h.r0, h.r1, h.r2, h.r3, h.r4, h.r5, h.r6, hv⟩
theorem Fra.ok.pc {f : Fra} (h : f.ok) {v : Int} (hv : I64b v) : (f.goto v).ok := ⟨h.c, hv, h.r0, h.r1, h.r2, h.r3, h.r4, h.r5, h.r6, h.r7⟩
theorem Fra.zero_ok : Fra.zero.ok := ⟨i64_zero, i64_zero, i64_zero, i64_zero, i64_zero, i64_zero, i64_zero, i64_zero, i64_zero, i64_zero⟩

/-! ### What is done -/
def atF (p : Prg) (f : Fra) : Option In := atIn p f.c f.p
def locO (o : Nat) : Bool := decide (1 ≤ o) && decide (o ≤ 4)
/-- What a local instruction does. -/
def doF (x : In) (f : Fra) : Fra := match x.o with
  | 1 => (f.put x.a.toNat x.k).goto (f.p + 1)
  | 2 => (f.put x.a.toNat (wrap64 (f.get x.a.toNat + f.get x.b.toNat))).goto (f.p + 1)
  | 3 => f.goto x.k
  | _ => f.goto (if f.get x.a.toNat = 0 then x.k else f.p + 1)
def stepF (p : Prg) (f : Fra) : Fra × Int := match atF p f with
  | none => (Fra.zero, 2)
  | some x => if locO x.o then (doF x f, 0) else (Fra.zero, 8)
def locAt (p : Prg) (f : Fra) : Bool := match atF p f with
  | none => false
  | some x => locO x.o
def nextF (p : Prg) (f : Fra) : Fra := match atF p f with
  | none => f
  | some x => doF x f
/-- The frame that f comes to by n local instructions. -/
def runK (p : Prg) (f : Fra) : Nat → Fra
  | 0 => f
  | n + 1 => nextF p (runK p f n)
/-- From f, behind n, by at most m more. -/
def runF (p : Prg) : Nat → Nat → Fra → Fra × Int × Int
  | 0, n, f => if locAt p f then (Fra.zero, 0, 5) else (f, (n : Int), 0)
  | m + 1, n, f => if locAt p f then runF p m (n + 1) (nextF p f) else (f, (n : Int), 0)
def runT (p : Prg) (f : Fra) (most : Int) : Fra × Int × Int := if (atF p f).isSome && decide (0 ≤ most) && decide (most ≤ 65536) then runF p most.toNat 0 f else (Fra.zero, 0, 2)

theorem runF_more {p : Prg} : ∀ (m n : Nat) (f g : Fra) (k : Int), runF p m n f = (g, k, 0) → (∀ b, runF p (m + b) n f = (g, k, 0)) ∧ locAt p g = false ∧ (n : Int) ≤ k ∧ k ≤ n + m := by
  intro m
  induction m with
  | zero =>
    intro n f g k h
    unfold runF at h
    cases hl : locAt p f with
    | true => rw [hl] at h; simp at h
    | false =>
      rw [hl] at h
      simp only [Bool.false_eq_true, if_false, Prod.mk.injEq, and_true] at h
      obtain ⟨rfl, rfl⟩ := h
      refine ⟨fun b => ?_, hl, by omega, by omega⟩
      cases b <;> simp [runF, hl]
  | succ m ih =>
    intro n f g k h
    unfold runF at h
    cases hl : locAt p f with
    | true =>
      rw [hl] at h
      simp only [if_true] at h
      obtain ⟨h1, h2, h3, h4⟩ := ih _ _ _ _ h
      refine ⟨fun b => ?_, h2, by omega, by omega⟩
      rw [show m + 1 + b = (m + b) + 1 by omega]
      unfold runF
      rw [hl]
      simp only [if_true]
      exact h1 b
    | false =>
      rw [hl] at h
      simp only [Bool.false_eq_true, if_false, Prod.mk.injEq, and_true] at h
      obtain ⟨rfl, rfl⟩ := h
      refine ⟨fun b => ?_, hl, by omega, by omega⟩
      rw [show m + 1 + b = (m + b) + 1 by omega]
      simp [runF, hl]
theorem runF_still {p : Prg} {f : Fra} (h : locAt p f = false) (m n : Nat) : runF p m n f = (f, (n : Int), 0) := by
  cases m <;> simp [runF, h]
theorem runF_err {p : Prg} : ∀ (m n : Nat) (f : Fra), (runF p m n f).2.2 = 0 ∨ runF p m n f = (Fra.zero, 0, 5) := by
  intro m
  induction m with
  | zero => intro n f; unfold runF; split <;> simp
  | succ m ih => intro n f; unfold runF; split; exact ih _ _; exact .inl rfl
theorem runF_ends {p : Prg} : ∀ (k m n : Nat) (f : Fra), k ≤ m → (∀ j, j < k → locAt p (runK p f j) = true) → locAt p (runK p f k) = false → runF p m n f = (runK p f k, ((n + k : Nat) : Int), 0) := by
  have step : ∀ (f : Fra) (k : Nat), runK p (nextF p f) k = runK p f (k + 1) := by
    intro f k
    induction k with
    | zero => rfl
    | succ k ih => show nextF p (runK p (nextF p f) k) = _; rw [ih]; rfl
  intro k
  induction k with
  | zero => intro m n f _ _ h; exact runF_still h m n
  | succ k ih =>
    intro m n f hm hj h
    obtain ⟨m, rfl⟩ : ∃ m', m = m' + 1 := ⟨m - 1, by omega⟩
    have h0 : locAt p f = true := hj 0 (by omega)
    unfold runF
    rw [h0]
    simp only [if_true]
    rw [ih m (n + 1) (nextF p f) (by omega) (fun j hj' => by rw [step]; exact hj (j + 1) (by omega)) (by rw [step]; exact h), step]
    rw [show n + 1 + k = n + (k + 1) by omega]
theorem runF_long {p : Prg} : ∀ (m n : Nat) (f : Fra), (∀ j, j ≤ m → locAt p (runK p f j) = true) → runF p m n f = (Fra.zero, 0, 5) := by
  have step : ∀ (f : Fra) (k : Nat), runK p (nextF p f) k = runK p f (k + 1) := by
    intro f k
    induction k with
    | zero => rfl
    | succ k ih => show nextF p (runK p (nextF p f) k) = _; rw [ih]; rfl
  intro m
  induction m with
  | zero => intro n f h; unfold runF; rw [show locAt p f = true from h 0 (by omega)]; rfl
  | succ m ih =>
    intro n f h
    unfold runF
    rw [show locAt p f = true from h 0 (by omega)]
    simp only [if_true]
    exact ih _ _ (fun j hj => by rw [step]; exact h (j + 1) (by omega))

/-! ### In a program that may be -/
section
variable {p : Prg} {f : Fra} {x : In}
theorem atF_parts (h : atF p f = some x) : ∃ (m n : Nat) (c : List In), f.c = (m : Int) ∧ f.p = (n : Int) ∧ p.codes[m]? = some c ∧ c[n]? = some x := by
  unfold atF atIn at h
  split at h
  · rename_i hik
    cases hc : p.codes[f.c.toNat]? with
    | none => rw [hc] at h; cases h
    | some c => rw [hc] at h; exact ⟨_, _, c, by omega, by omega, hc, h⟩
  · cases h
theorem check_known {a b d l : Int} (h : checkB x a b d l = true) : known x.o = true := by
  have key : ∀ (q : List (Nat × Int)), q.foldl (checkStep a b d l) false = false := fun q => by
    induction q with
    | nil => rfl
    | cons y t ih => simp only [List.foldl_cons, checkStep, Bool.false_and]; exact ih
  cases hk : known x.o with
  | true => rfl
  | false =>
    unfold checkB okI at h
    rw [hk, Bool.false_and, key] at h
    cases h
theorem check_regs {a b d l : Int} (h : checkB x a b d l = true) : (0 ≤ x.a ∧ x.a < 8) ∧ (0 ≤ x.b ∧ x.b < 8) := by
  have hk := check_known h
  obtain ⟨o, xa, xb, xc, xk⟩ := x
  rcases known_cases hk with rfl | rfl | rfl | rfl | rfl | rfl | rfl | rfl | rfl | rfl <;>
    simp [checkB, okI, bareOf, bareStep, In.put, In.only, In.eq, known, pairs, namesOf, In.get, checkStep, mayB, belowB] at h ⊢ <;> omega
theorem at_regs (h : checkW p = none) (hx : atF p f = some x) : (0 ≤ x.a ∧ x.a < 8) ∧ (0 ≤ x.b ∧ x.b < 8) := by
  obtain ⟨m, n, c, _, _, hc, hn⟩ := atF_parts hx
  exact check_regs (may_ins h hc hn)
theorem at_kind (h : checkW p = none) (hx : atF p f = some x) : 1 ≤ x.o ∧ x.o ≤ 10 := by
  obtain ⟨m, n, c, _, _, hc, hn⟩ := atF_parts hx
  exact known_iff.1 (check_known (may_ins h hc hn))
theorem locO_iff {o : Nat} : locO o = true ↔ 1 ≤ o ∧ o ≤ 4 := by simp [locO]
theorem doF_at (h : checkW p = none) (hx : atF p f = some x) (hl : locO x.o = true) : (atF p (doF x f)).isSome = true ∧ (doF x f).c = f.c := by
  obtain ⟨m, n, c, hfc, hfp, hc, hn⟩ := atF_parts hx
  have hnext := at_next h hc hn
  have hl' := locO_iff.1 hl
  have hc1 : ∀ (g : Fra) (v : Int), g.c = f.c → atF p (g.goto v) = atIn p m v := fun g v hg => by unfold atF Fra.goto; simp only; rw [hg, hfc]
  unfold doF
  split
  · rename_i ho
    refine ⟨?_, put_c _ _ _⟩
    rw [hc1 _ _ (put_c _ _ _), hfp]
    rcases hnext with h1 | ⟨_, h1⟩
    · exact h1
    · omega
  · rename_i ho
    refine ⟨?_, put_c _ _ _⟩
    rw [hc1 _ _ (put_c _ _ _), hfp]
    rcases hnext with h1 | ⟨_, h1⟩
    · exact h1
    · omega
  · rename_i ho
    refine ⟨?_, rfl⟩
    rw [hc1 _ _ rfl]
    exact at_place h hc hn (.inl ho)
  · rename_i h1 h2 h3
    have ho : x.o = 4 := by
      have a1 : x.o ≠ 1 := h1
      have a2 : x.o ≠ 2 := h2
      have a3 : x.o ≠ 3 := h3
      omega
    refine ⟨?_, rfl⟩
    rw [hc1 _ _ rfl]
    split
    · exact at_place h hc hn (.inr ho)
    · rw [hfp]
      rcases hnext with h1 | ⟨_, h1⟩
      · exact h1
      · omega
end
end Go.Proofs.Ytamkmmpockmpfaa
