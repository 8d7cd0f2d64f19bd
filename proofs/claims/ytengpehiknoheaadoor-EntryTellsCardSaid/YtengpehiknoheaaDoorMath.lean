/-
  Plain mathematics of numbers as bytes: no program. 'numL': the bytes of a number; 'getG': reading them one by one; 'getR': reading them by what they would be; that both read alike, that what was put is got, and what is got is put as it stood.
-/
namespace Go.Proofs.YtengpehiknoheaaDoor.Oct

/-- The bytes of a number. -/
def numL (v : Nat) : List UInt8 :=
  if v < 128 then [UInt8.ofNat v] else UInt8.ofNat (v % 128 + 128) :: numL (v / 128)
termination_by v
decreasing_by omega

theorem numL_small {v : Nat} (h : v < 128) : numL v = [UInt8.ofNat v] := by rw [numL, if_pos h]
theorem numL_big {v : Nat} (h : ¬ v < 128) : numL v = UInt8.ofNat (v % 128 + 128) :: numL (v / 128) := by rw [numL, if_neg h]

/-- What is read: the number, what is behind it, the error. -/
def getG (i acc : Nat) : List UInt8 → Nat × List UInt8 × Nat
  | [] => (0, [], 6)
  | b :: t =>
    if (i = 9 ∧ 1 < b.toNat) ∨ (0 < i ∧ b.toNat = 0) then (0, [], 7)
    else if b.toNat < 128 then (acc + b.toNat * 2 ^ (7 * i), t, 0)
    else getG (i + 1) (acc + (b.toNat - 128) * 2 ^ (7 * i)) t

theorem toNat_ofNat_lt {n : Nat} (h : n < 256) : (UInt8.ofNat n).toNat = n := by
  simp [UInt8.toNat_ofNat']; omega

theorem pow7_succ (i : Nat) : 2 ^ (7 * (i + 1)) = 128 * 2 ^ (7 * i) := by
  rw [Nat.mul_add, Nat.pow_add]; omega

/-- What was put is got, whatever stands behind it. -/
theorem getG_numL (u : Nat) : ∀ (i acc : Nat) (s : List UInt8), i ≤ 9 → (0 < i → u ≠ 0) → u * 2 ^ (7 * i) < 2 ^ 64 →
    getG i acc (numL u ++ s) = (acc + u * 2 ^ (7 * i), s, 0) := by
  induction u using Nat.strongRecOn with
  | ind u ih =>
    intro i acc s hi h0 hlt
    by_cases h : u < 128
    · rw [numL_small h]
      have e : (UInt8.ofNat u).toNat = u := toNat_ofNat_lt (by omega)
      have hn : ¬ ((i = 9 ∧ 1 < u) ∨ (0 < i ∧ u = 0)) := by
        rintro (⟨rfl, h1⟩ | ⟨h1, h2⟩)
        · omega
        · exact h0 h1 h2
      simp only [List.singleton_append, getG, e]
      rw [if_neg hn, if_pos h]
    · rw [numL_big h]
      have e : (UInt8.ofNat (u % 128 + 128)).toNat = u % 128 + 128 := toNat_ofNat_lt (by omega)
      have hi8 : i ≤ 8 := by
        by_cases hi9 : i = 9
        · subst hi9; omega
        · omega
      have hn : ¬ ((i = 9 ∧ 1 < u % 128 + 128) ∨ (0 < i ∧ u % 128 + 128 = 0)) := by omega
      simp only [List.cons_append, getG, e]
      rw [if_neg hn, if_neg (by omega)]
      have hp := pow7_succ i
      have key : u * 2 ^ (7 * i) = u % 128 * 2 ^ (7 * i) + u / 128 * 2 ^ (7 * (i + 1)) := by
        rw [hp, ← Nat.mul_assoc, ← Nat.add_mul]; congr 1; omega
      rw [ih (u / 128) (by omega) (i + 1) _ s (by omega) (by omega) (by omega)]
      rw [key, Nat.add_sub_cancel]; simp [Nat.add_assoc]

/-- What is got is put as it stood. -/
theorem getG_back (l : List UInt8) : ∀ (i acc x : Nat) (r : List UInt8), i ≤ 9 → getG i acc l = (x, r, 0) →
    ∃ u, x = acc + u * 2 ^ (7 * i) ∧ numL u ++ r = l ∧ (0 < i → u ≠ 0) ∧ u * 2 ^ (7 * i) < 2 ^ 64 := by
  induction l with
  | nil => intro i acc x r _ h; simp [getG] at h
  | cons b t ih =>
    intro i acc x r hi h
    have hb : b.toNat < 256 := b.toNat_lt
    unfold getG at h
    by_cases hw : (i = 9 ∧ 1 < b.toNat) ∨ (0 < i ∧ b.toNat = 0)
    · rw [if_pos hw] at h; simp at h
    · rw [if_neg hw] at h
      by_cases hs : b.toNat < 128
      · rw [if_pos hs] at h
        simp only [Prod.mk.injEq] at h
        obtain ⟨rfl, rfl, -⟩ := h
        refine ⟨b.toNat, rfl, by rw [numL_small hs]; simp, by omega, ?_⟩
        by_cases hi9 : i = 9
        · subst hi9; omega
        · have : 2 ^ (7 * i) ≤ 2 ^ (7 * 8) := Nat.pow_le_pow_right (by omega) (by omega)
          have := Nat.mul_le_mul (show b.toNat ≤ 127 by omega) this
          omega
      · rw [if_neg hs] at h
        have hi8 : i ≤ 8 := by omega
        obtain ⟨u, rfl, hl, hu, hlt⟩ := ih (i + 1) _ x r (by omega) h
        have hu0 := hu (by omega)
        have e1 : (128 * u + (b.toNat - 128)) % 128 = b.toNat - 128 := by omega
        have e2 : (128 * u + (b.toNat - 128)) / 128 = u := by omega
        have hp := pow7_succ i
        have key : (128 * u + (b.toNat - 128)) * 2 ^ (7 * i) = (b.toNat - 128) * 2 ^ (7 * i) + u * 2 ^ (7 * (i + 1)) := by
          rw [hp, Nat.add_mul, Nat.mul_comm 128 u, Nat.mul_assoc]; omega
        refine ⟨128 * u + (b.toNat - 128), by rw [key]; omega, ?_, by omega, ?_⟩
        · rw [numL_big (by omega), e1, e2, ← hl]
          have : UInt8.ofNat (b.toNat - 128 + 128) = b := by
            rw [Nat.sub_add_cancel (by omega)]; simp
          rw [this]; rfl
        · have hlt8 : u * 2 ^ (7 * (i + 1)) + (b.toNat - 128) * 2 ^ (7 * i) < 2 ^ 64 := by
            have h1 : (b.toNat - 128) * 2 ^ (7 * i) < 2 ^ (7 * (i + 1)) := by
              rw [hp]; exact Nat.mul_lt_mul_of_pos_right (by omega) (Nat.pow_pos (by omega))
            have h2 : 2 ^ (7 * (i + 1)) ∣ 2 ^ 64 ∨ True := Or.inr trivial
            have h3 : (u + 1) * 2 ^ (7 * (i + 1)) ≤ 2 ^ 64 := by
              have hd : 2 ^ (7 * (i + 1)) ∣ 2 ^ 64 := Nat.pow_dvd_pow 2 (by omega)
              obtain ⟨k, hk⟩ := hd
              rw [hk, Nat.mul_comm (2 ^ (7 * (i + 1))) k] at hlt ⊢
              have := Nat.lt_of_mul_lt_mul_right hlt
              exact Nat.mul_le_mul_right _ (by omega)
            rw [Nat.add_mul, Nat.one_mul] at h3
            omega
          rw [key]; omega

/-- How many bytes of 128 and more stand ahead, of k at most. -/
def lead : Nat → List UInt8 → Nat
  | 0, _ => 0
  | _ + 1, [] => 0
  | k + 1, b :: t => if 128 ≤ b.toNat then lead k t + 1 else 0

theorem lead_le_len (k : Nat) : ∀ l, lead k l ≤ l.length := by
  induction k with
  | zero => intro l; simp [lead]
  | succ k ih =>
    intro l
    cases l with
    | nil => simp [lead]
    | cons b t => simp only [lead, List.length_cons]; split; have := ih t; omega; omega

theorem lead_le (k : Nat) : ∀ l, lead k l ≤ k := by
  induction k with
  | zero => intro l; simp [lead]
  | succ k ih =>
    intro l
    cases l with
    | nil => simp [lead]
    | cons b t => simp only [lead]; split; have := ih t; omega; omega

/-- The errors of getG: 6 just if all is read. -/
theorem getG_err (l : List UInt8) : ∀ (i acc : Nat), i ≤ 9 →
    ((getG i acc l).2.2 = 0 ∧ lead (9 - i) l ≠ l.length) ∨ (getG i acc l = (0, [], 6) ∧ lead (9 - i) l = l.length) ∨ (getG i acc l = (0, [], 7) ∧ lead (9 - i) l ≠ l.length) := by
  induction l with
  | nil => intro i acc hi; right; left; refine ⟨rfl, ?_⟩; have := lead_le_len (9 - i) []; simpa using this
  | cons b t ih =>
    intro i acc hi
    unfold getG
    by_cases hw : (i = 9 ∧ 1 < b.toNat) ∨ (0 < i ∧ b.toNat = 0)
    · rw [if_pos hw]; right; right; refine ⟨rfl, ?_⟩
      rcases hw with ⟨rfl, h1⟩ | ⟨h1, h2⟩
      · simp [lead]
      · obtain ⟨k, hk⟩ : ∃ k, 9 - i = k ∨ i = 9 := ⟨9 - i, Or.inl rfl⟩
        cases h9 : 9 - i with
        | zero => simp [lead]
        | succ k => simp [lead, h2]
    · rw [if_neg hw]
      by_cases hs : b.toNat < 128
      · rw [if_pos hs]; left; refine ⟨rfl, ?_⟩
        cases h9 : 9 - i with
        | zero => simp [lead]
        | succ k => simp only [lead]; rw [if_neg (by omega)]; simp
      · rw [if_neg hs]
        obtain ⟨k, hk⟩ : ∃ k, 9 - i = k + 1 := ⟨8 - i, by omega⟩
        have hk' : 9 - (i + 1) = k := by omega
        have := ih (i + 1) (acc + (b.toNat - 128) * 2 ^ (7 * i)) (by omega)
        rw [hk'] at this
        rw [hk]
        simp only [lead]; rw [if_pos (by omega)]
        simpa using this

/-- The value of a row of bytes, seven bits each, the first one the least. -/
def val : List UInt8 → Nat
  | [] => 0
  | b :: t => b.toNat % 128 + 128 * val t

theorem val_numL (u : Nat) : val (numL u) = u := by
  induction u using Nat.strongRecOn with
  | ind u ih =>
    by_cases h : u < 128
    · rw [numL_small h]; simp [val, toNat_ofNat_lt (show u < 256 by omega)]; omega
    · rw [numL_big h]; simp only [val]
      rw [ih _ (by omega), toNat_ofNat_lt (by omega)]; omega

theorem lead_numL (u : Nat) : ∀ (k : Nat) (r : List UInt8), (numL u).length ≤ k + 1 → lead k (numL u ++ r) + 1 = (numL u).length := by
  induction u using Nat.strongRecOn with
  | ind u ih =>
    intro k r hk
    by_cases h : u < 128
    · rw [numL_small h]; cases k with
      | zero => simp [lead]
      | succ k => simp only [List.singleton_append, lead]; rw [if_neg]; simp; rw [toNat_ofNat_lt (by omega)]; omega
    · rw [numL_big h] at hk ⊢
      have hpos : 0 < (numL (u / 128)).length := by rw [numL]; split <;> simp
      cases k with
      | zero => simp at hk; rw [hk] at hpos; simp at hpos
      | succ k =>
        simp only [List.cons_append, lead]; rw [if_pos (by rw [toNat_ofNat_lt (by omega)]; omega)]
        rw [ih _ (by omega) k r (by simpa using hk)]; simp

theorem numL_len (k : Nat) : ∀ u, u < 2 ^ (7 * (k + 1)) → (numL u).length ≤ k + 1 := by
  induction k with
  | zero => intro u h; rw [numL_small (by omega)]; simp
  | succ k ih =>
    intro u h
    by_cases h1 : u < 128
    · rw [numL_small h1]; simp
    · rw [numL_big h1]; rw [pow7_succ (k + 1)] at h
      have := ih (u / 128) (by omega)
      simp; omega

theorem numL_len10 {u : Nat} (h : u < 2 ^ 64) : (numL u).length ≤ 10 := numL_len 9 u (by omega)
theorem numL_pos (u : Nat) : 0 < (numL u).length := by rw [numL]; split <;> simp

/-- The document's reading: by what its bytes would be. -/
def getR (l : List UInt8) : Nat × List UInt8 × Nat :=
  if lead 9 l = l.length then (0, [], 6)
  else if numL (val (l.take (lead 9 l + 1)) % 2 ^ 64) = l.take (lead 9 l + 1) then (val (l.take (lead 9 l + 1)) % 2 ^ 64, l.drop (lead 9 l + 1), 0)
  else (0, [], 7)

theorem getG_eq (l : List UInt8) : getG 0 0 l = getR l := by
  unfold getR
  have he := getG_err l 0 0 (by omega)
  by_cases h6 : lead 9 l = l.length
  · rw [if_pos h6]
    rcases he with ⟨_, h⟩ | ⟨h, _⟩ | ⟨_, h⟩
    · exact absurd h6 h
    · exact h
    · exact absurd h6 h
  · rw [if_neg h6]
    by_cases hn : numL (val (l.take (lead 9 l + 1)) % 2 ^ 64) = l.take (lead 9 l + 1)
    · rw [if_pos hn]
      have := getG_numL (val (l.take (lead 9 l + 1)) % 2 ^ 64) 0 0 (l.drop (lead 9 l + 1)) (by omega) (by omega) (by have := Nat.mod_lt (val (l.take (lead 9 l + 1))) (show 0 < 2 ^ 64 by omega); omega)
      rw [hn, List.take_append_drop] at this
      rw [this]; simp
    · rw [if_neg hn]
      rcases he with ⟨h, _⟩ | ⟨_, h⟩ | ⟨h, _⟩
      · exfalso
        have hg : getG 0 0 l = ((getG 0 0 l).1, (getG 0 0 l).2.1, 0) := Prod.ext rfl (Prod.ext rfl h)
        obtain ⟨u, hx, hl, _, hlt⟩ := getG_back l 0 0 (getG 0 0 l).1 (getG 0 0 l).2.1 (by omega) hg
        have hu : u < 2 ^ 64 := by omega
        have hld := lead_numL u 9 (getG 0 0 l).2.1 (by have := numL_len10 hu; omega)
        rw [hl] at hld
        apply hn
        have ht : l.take (lead 9 l + 1) = numL u := by
          rw [hld]; exact (congrArg (List.take _) hl.symm).trans (by simp)
        rw [ht, val_numL, Nat.mod_eq_of_lt hu]
      · exact absurd h h6
      · exact h

theorem getR_numL {u : Nat} (h : u < 2 ^ 64) (s : List UInt8) : getR (numL u ++ s) = (u, s, 0) := by
  rw [← getG_eq, getG_numL u 0 0 s (by omega) (by omega) (by omega)]; simp
theorem getR_back {l : List UInt8} {x : Nat} {r : List UInt8} (h : getR l = (x, r, 0)) : numL x ++ r = l ∧ x < 2 ^ 64 := by
  rw [← getG_eq] at h
  obtain ⟨u, hx, hl, _, hlt⟩ := getG_back l 0 0 x r (by omega) h
  have : x = u := by omega
  rw [this]; exact ⟨hl, by omega⟩
end Go.Proofs.YtengpehiknoheaaDoor.Oct
