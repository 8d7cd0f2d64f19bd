/-
  Plain mathematics of sets of small numbers as bits: no program. 'bitOf': the set of one number; 'has': whether it is there; 'withN', 'lessN': with it, without it; 'nums': the numbers of a set, rising; that these make the set again.
-/
import Derived.Laws.ShiftsVarLaws
namespace Go.Proofs.Ytnngkpggejmdkaa.SetM

def top : Nat := 18446744073709551616
def bitOf (k : Int) : Nat := if 0 ≤ k ∧ k < 64 then 2 ^ k.toNat else 0
def has (s : Nat) (k : Int) : Bool := decide (0 ≤ k ∧ k < 64) && s.testBit k.toNat
def withN (s : Nat) (k : Int) : Nat := s ||| bitOf k
def lessN (s : Nat) (k : Int) : Nat := s &&& (18446744073709551615 - bitOf k)
def ofL (l : List Int) : Nat := l.foldl withN 0

theorem bitOf_in {k : Int} (h0 : 0 ≤ k) (h1 : k < 64) : bitOf k = 2 ^ k.toNat := by rw [bitOf, if_pos ⟨h0, h1⟩]
theorem bitOf_out {k : Int} (h : ¬ (0 ≤ k ∧ k < 64)) : bitOf k = 0 := by rw [bitOf, if_neg h]
theorem bitOf_lt (k : Int) : bitOf k < 18446744073709551616 := by
  by_cases h : 0 ≤ k ∧ k < 64
  · rw [bitOf_in h.1 h.2, show (18446744073709551616 : Nat) = 2 ^ 64 from rfl]
    exact Nat.pow_lt_pow_right (by decide) (by omega)
  · rw [bitOf_out h]; decide

theorem withN_lt {s : Nat} (hs : s < 18446744073709551616) (k : Int) : withN s k < 18446744073709551616 :=
  Nat.or_lt_two_pow (n := 64) hs (bitOf_lt k)
theorem lessN_lt {s : Nat} (hs : s < 18446744073709551616) (k : Int) : lessN s k < 18446744073709551616 :=
  Nat.lt_of_le_of_lt Nat.and_le_left hs
theorem ofL_lt (l : List Int) : ofL l < 18446744073709551616 := by
  have : ∀ (l : List Int) (s : Nat), s < 18446744073709551616 → l.foldl withN s < 18446744073709551616 := by
    intro l; induction l with
    | nil => intro s h; exact h
    | cons k l ih => intro s h; exact ih _ (withN_lt h k)
  exact this l 0 (by decide)
theorem ofL_snoc (l : List Int) (k : Int) : ofL (l ++ [k]) = withN (ofL l) k := by simp [ofL]

/-- Has by the bit's mask. -/
theorem and_bit (s : Nat) (k : Int) : (s &&& bitOf k = 0) ↔ has s k = false := by
  by_cases h : 0 ≤ k ∧ k < 64
  · rw [bitOf_in h.1 h.2, nat_bit, has, decide_eq_true h, Bool.true_and, Nat.testBit_eq_decide_div_mod_eq]
    have hp : 0 < 2 ^ k.toNat := Nat.two_pow_pos _
    have h2 : s / 2 ^ k.toNat % 2 = 0 ∨ s / 2 ^ k.toNat % 2 = 1 := by omega
    rcases h2 with h2 | h2
    · rw [h2]; simp
    · rw [h2]; simp
  · rw [bitOf_out h, has, decide_eq_false h]; simp

/-- Has by the weight. -/
theorem has_div {s : Nat} {k : Int} (h0 : 0 ≤ k) (h1 : k < 64) : has s k = decide (s / 2 ^ k.toNat % 2 = 1) := by
  rw [has, decide_eq_true ⟨h0, h1⟩, Bool.true_and, Nat.testBit_eq_decide_div_mod_eq]
theorem has_out {s : Nat} {k : Int} (h : ¬ (0 ≤ k ∧ k < 64)) : has s k = false := by rw [has, decide_eq_false h]; rfl

theorem testBit_bitOf (k : Int) (j : Nat) : (bitOf k).testBit j = (decide (0 ≤ k ∧ k < 64) && decide (k.toNat = j)) := by
  by_cases h : 0 ≤ k ∧ k < 64
  · rw [bitOf_in h.1 h.2, decide_eq_true h, Bool.true_and, Nat.testBit_two_pow]
  · rw [bitOf_out h, decide_eq_false h]; simp

theorem testBit_withN (s : Nat) (k : Int) (j : Nat) : (withN s k).testBit j = (s.testBit j || (decide (0 ≤ k ∧ k < 64) && decide (k.toNat = j))) := by
  rw [withN, Nat.testBit_or, testBit_bitOf]

theorem testBit_lessN {s : Nat} (hs : s < 18446744073709551616) (k : Int) (j : Nat) : (lessN s k).testBit j = (s.testBit j && !(decide (0 ≤ k ∧ k < 64) && decide (k.toNat = j))) := by
  rw [lessN, Nat.testBit_and]
  by_cases hj : j < 64
  · have hb := bitOf_lt k
    rw [show 18446744073709551615 - bitOf k = 2 ^ 64 - (bitOf k + 1) by omega, Nat.testBit_two_pow_sub_succ (by omega), testBit_bitOf, decide_eq_true hj, Bool.true_and]
  · have : s.testBit j = false := Nat.testBit_lt_two_pow (Nat.lt_of_lt_of_le hs (by rw [show (18446744073709551616 : Nat) = 2 ^ 64 from rfl]; exact Nat.pow_le_pow_right (by decide) (by omega)))
    rw [this]; rfl

theorem has_withN (s : Nat) (k j : Int) : has (withN s k) j = (has s j || (decide (0 ≤ j ∧ j < 64) && decide (k = j))) := by
  by_cases h : 0 ≤ j ∧ j < 64
  · simp only [has, decide_eq_true h, Bool.true_and, testBit_withN]
    congr 1
    by_cases hk : k = j
    · subst hk; simp [h]
    · rw [decide_eq_false hk]
      by_cases h2 : 0 ≤ k ∧ k < 64
      · have : k.toNat ≠ j.toNat := by omega
        simp [this]
      · simp [h2]
  · rw [has_out h, has_out h]; simp [h]

theorem has_lessN {s : Nat} (hs : s < 18446744073709551616) (k j : Int) : has (lessN s k) j = (has s j && !decide (k = j)) := by
  by_cases h : 0 ≤ j ∧ j < 64
  · simp only [has, decide_eq_true h, Bool.true_and, testBit_lessN hs]
    congr 2
    by_cases hk : k = j
    · subst hk; simp [h]
    · rw [decide_eq_false hk]
      by_cases h2 : 0 ≤ k ∧ k < 64
      · have : k.toNat ≠ j.toNat := by omega
        simp [this]
      · simp [h2]
  · rw [has_out h, has_out h]; simp

/-- With one that is not there: the weight more. -/
theorem add_bit {s : Nat} {k : Int} (hs : s < 18446744073709551616) (h0 : 0 ≤ k) (h1 : k < 64) (hn : has s k = false) : s + 2 ^ k.toNat = withN s k := by
  have hand := (and_bit s k).2 hn
  rw [withN]
  rw [bitOf_in h0 h1] at hand ⊢
  have hb : 2 ^ k.toNat < 18446744073709551616 := by have := bitOf_lt k; rwa [bitOf_in h0 h1] at this
  have hor : s ||| 2 ^ k.toNat < 2 ^ 64 := Nat.or_lt_two_pow (n := 64) hs hb
  have hx := Nat.shiftLeft_add_eq_or_of_lt (a := s / 2 ^ (k.toNat + 1) * 2 + 1) (i := k.toNat) (b := s % 2 ^ k.toNat) (Nat.mod_lt _ (Nat.two_pow_pos _))
  have hy := Nat.shiftLeft_add_eq_or_of_lt (a := s / 2 ^ (k.toNat + 1) * 2) (i := k.toNat) (b := s % 2 ^ k.toNat) (Nat.mod_lt _ (Nat.two_pow_pos _))
  have hz := Nat.shiftLeft_add_eq_or_of_lt (a := s / 2 ^ (k.toNat + 1)) (i := k.toNat + 1) (b := 2 ^ k.toNat) (by rw [Nat.pow_succ]; have := Nat.two_pow_pos k.toNat; omega)
  have hdm : s / 2 ^ k.toNat % 2 = 0 := by
    rw [has_div h0 h1] at hn; have := of_decide_eq_false hn; omega
  have e1 : s / 2 ^ k.toNat = s / 2 ^ (k.toNat + 1) * 2 := by
    rw [Nat.pow_succ, ← Nat.div_div_eq_div_mul]; omega
  have e2 : 2 ^ k.toNat * (s / 2 ^ (k.toNat + 1) * 2) + s % 2 ^ k.toNat = s := by rw [← e1]; exact Nat.div_add_mod s (2 ^ k.toNat)
  rw [Nat.shiftLeft_eq] at hx hy hz
  have e3 : s / 2 ^ (k.toNat + 1) * 2 * 2 ^ k.toNat + s % 2 ^ k.toNat = s := by rw [Nat.mul_comm]; exact e2
  have e4 : (s / 2 ^ (k.toNat + 1) * 2 + 1) * 2 ^ k.toNat = s / 2 ^ (k.toNat + 1) * 2 * 2 ^ k.toNat + 2 ^ k.toNat := by rw [Nat.add_mul, Nat.one_mul]
  have e5 : s / 2 ^ (k.toNat + 1) * 2 ^ (k.toNat + 1) = s / 2 ^ (k.toNat + 1) * 2 * 2 ^ k.toNat := by rw [Nat.pow_succ, Nat.mul_comm (2 ^ k.toNat) 2, Nat.mul_assoc]
  rw [e4] at hx
  rw [e5] at hz
  rw [e3] at hy
  calc s + 2 ^ k.toNat = s / 2 ^ (k.toNat + 1) * 2 * 2 ^ k.toNat + 2 ^ k.toNat + s % 2 ^ k.toNat := by omega
    _ = (s / 2 ^ (k.toNat + 1) * 2 * 2 ^ k.toNat + 2 ^ k.toNat) ||| (s % 2 ^ k.toNat) := hx
    _ = ((s / 2 ^ (k.toNat + 1) * 2 * 2 ^ k.toNat) ||| 2 ^ k.toNat) ||| (s % 2 ^ k.toNat) := by rw [hz]
    _ = ((s / 2 ^ (k.toNat + 1) * 2 * 2 ^ k.toNat) ||| (s % 2 ^ k.toNat)) ||| 2 ^ k.toNat := by rw [Nat.or_assoc, Nat.or_comm (2 ^ k.toNat), ← Nat.or_assoc]
    _ = s ||| 2 ^ k.toNat := by rw [← hy]

theorem eq_of_bits {s t : Nat} (hs : s < 18446744073709551616) (ht : t < 18446744073709551616) (h : ∀ j, j < 64 → s.testBit j = t.testBit j) : s = t := by
  refine Nat.eq_of_testBit_eq fun j => ?_
  by_cases hj : j < 64
  · exact h j hj
  · have hp : (18446744073709551616 : Nat) ≤ 2 ^ j := by rw [show (18446744073709551616 : Nat) = 2 ^ 64 from rfl]; exact Nat.pow_le_pow_right (by decide) (by omega)
    rw [Nat.testBit_lt_two_pow (Nat.lt_of_lt_of_le hs hp), Nat.testBit_lt_two_pow (Nat.lt_of_lt_of_le ht hp)]

/-- Without one that is there: the weight less. -/
theorem sub_bit {s : Nat} {k : Int} (hs : s < 18446744073709551616) (h0 : 0 ≤ k) (h1 : k < 64) (hn : has s k = true) : 2 ^ k.toNat ≤ s ∧ s - 2 ^ k.toNat = lessN s k := by
  have e : withN (lessN s k) k = s := by
    refine eq_of_bits (withN_lt (lessN_lt hs k) k) hs fun j hj => ?_
    rw [testBit_withN, testBit_lessN hs]
    by_cases hkj : k.toNat = j
    · have : s.testBit j = true := by rw [has, decide_eq_true ⟨h0, h1⟩, Bool.true_and, hkj] at hn; exact hn
      rw [this]; simp [h0, h1, hkj]
    · simp [hkj]
  have h2 : has (lessN s k) k = false := by rw [has_lessN hs]; simp
  have := add_bit (lessN_lt hs k) h0 h1 h2
  rw [e] at this
  omega

theorem withN_out {s : Nat} {k : Int} (h : ¬ (0 ≤ k ∧ k < 64)) : withN s k = s := by rw [withN, bitOf_out h]; simp
theorem withN_there {s : Nat} {k : Int} (hs : s < 18446744073709551616) (h : has s k = true) : withN s k = s := by
  refine eq_of_bits (withN_lt hs k) hs fun j hj => ?_
  rw [testBit_withN]
  by_cases hkj : k.toNat = j
  · have : s.testBit j = true := by rw [has] at h; simp at h; rw [← hkj]; exact h.2
    rw [this]; rfl
  · simp [hkj]
theorem lessN_not {s : Nat} {k : Int} (hs : s < 18446744073709551616) (h : has s k = false) : lessN s k = s := by
  refine eq_of_bits (lessN_lt hs k) hs fun j hj => ?_
  rw [testBit_lessN hs]
  by_cases hkj : 0 ≤ k ∧ k < 64 ∧ k.toNat = j
  · have : s.testBit j = false := by rw [has] at h; rw [← hkj.2.2]; simpa [hkj.1, hkj.2.1] using h
    rw [this]; rfl
  · have : (decide (0 ≤ k ∧ k < 64) && decide (k.toNat = j)) = false := by
      by_cases h1 : 0 ≤ k ∧ k < 64
      · have : ¬ k.toNat = j := fun e => hkj ⟨h1.1, h1.2, e⟩
        simp [this]
      · simp [h1]
    rw [this]; simp

/-! ### The numbers of a set, rising -/

def numsTo : Nat → Nat → List (Fin 64)
  | 0, _ => []
  | n + 1, s => numsTo n s ++ (if s.testBit n then [Fin.ofNat 64 n] else [])
def nums (s : Nat) : List (Fin 64) := numsTo 64 s
def ints (l : List (Fin 64)) : List Int := l.map fun k => (k.val : Int)

theorem numsTo_hit {n s : Nat} (h : s.testBit n = true) : numsTo (n + 1) s = numsTo n s ++ [Fin.ofNat 64 n] := by rw [numsTo, if_pos h]
theorem numsTo_miss {n s : Nat} (h : s.testBit n = false) : numsTo (n + 1) s = numsTo n s := by rw [numsTo, if_neg (by rw [h]; decide)]; simp
theorem val_of {n : Nat} (h : n < 64) : (Fin.ofNat 64 n).val = n := Nat.mod_eq_of_lt h

theorem numsTo_len (n s : Nat) : (numsTo n s).length ≤ n := by
  induction n with
  | zero => exact Nat.le_refl _
  | succ n ih => rw [numsTo, List.length_append]; split <;> simp <;> omega
theorem nums_len (s : Nat) : (nums s).length ≤ 64 := numsTo_len 64 s

theorem mem_numsTo {n s : Nat} (hn : n ≤ 64) (k : Fin 64) : k ∈ numsTo n s ↔ k.val < n ∧ s.testBit k.val = true := by
  induction n with
  | zero => simp [numsTo]
  | succ n ih =>
    have ih := ih (by omega)
    rw [numsTo, List.mem_append, ih]
    by_cases hb : s.testBit n = true
    · rw [if_pos hb, List.mem_singleton]
      constructor
      · rintro (h | h)
        · exact ⟨by omega, h.2⟩
        · have : k.val = n := by rw [h]; exact val_of (by omega)
          rw [this]; exact ⟨by omega, hb⟩
      · rintro ⟨h1, h2⟩
        by_cases hk : k.val = n
        · right; apply Fin.ext; rw [val_of (by omega)]; exact hk
        · left; exact ⟨by omega, h2⟩
    · rw [if_neg hb]
      constructor
      · rintro (h | h)
        · exact ⟨by omega, h.2⟩
        · cases h
      · rintro ⟨h1, h2⟩
        left
        refine ⟨?_, h2⟩
        have : k.val ≠ n := by intro e; rw [e] at h2; exact hb h2
        omega
theorem mem_nums {s : Nat} (k : Fin 64) : k ∈ nums s ↔ s.testBit k.val = true := by
  rw [nums, mem_numsTo (Nat.le_refl _)]; exact ⟨fun h => h.2, fun h => ⟨k.isLt, h⟩⟩

theorem numsTo_rise (s : Nat) : ∀ n, n ≤ 64 → (numsTo n s).Pairwise (· < ·) := by
  intro n
  induction n with
  | zero => intro _; simp [numsTo]
  | succ n ih =>
    intro hn
    rw [numsTo, List.pairwise_append]
    refine ⟨ih (by omega), by split <;> simp, ?_⟩
    intro a ha b hb
    have h1 := (mem_numsTo (by omega) a).1 ha
    split at hb
    · rw [List.mem_singleton] at hb
      subst hb
      show a.val < (Fin.ofNat 64 n).val
      rw [val_of (by omega)]; exact h1.1
    · cases hb
theorem nums_rise (s : Nat) : (nums s).Pairwise (· < ·) := numsTo_rise s 64 (Nat.le_refl _)

/-- Nothing is behind what is left. -/
theorem numsTo_all {s i : Nat} (h : s < 2 ^ i) : ∀ m, numsTo (i + m) s = numsTo i s := by
  intro m
  induction m with
  | zero => rfl
  | succ m ih =>
    rw [show i + (m + 1) = (i + m) + 1 by omega, numsTo_miss, ih]
    exact Nat.testBit_lt_two_pow (Nat.lt_of_lt_of_le h (Nat.pow_le_pow_right (by decide) (by omega)))
theorem nums_of_lt {s i : Nat} (h : s < 2 ^ i) (hi : i ≤ 64) : nums s = numsTo i s := by
  have := numsTo_all h (64 - i)
  rwa [show i + (64 - i) = 64 by omega] at this

theorem numsTo_prefix (s i m : Nat) : numsTo i s <+: numsTo (i + m) s := by
  induction m with
  | zero => exact List.prefix_refl _
  | succ m ih => rw [← Nat.add_assoc, numsTo]; exact ih.trans (List.prefix_append _ _)

/-- What is listed makes the set again. -/
theorem testBit_foldl (l : List Int) : ∀ (s j : Nat), (l.foldl withN s).testBit j = (s.testBit j || l.any fun k => decide (0 ≤ k ∧ k < 64) && decide (k.toNat = j)) := by
  induction l with
  | nil => intro s j; simp
  | cons k l ih => intro s j; rw [List.foldl_cons, ih, testBit_withN, List.any_cons, Bool.or_assoc]
theorem ofL_nums {s : Nat} (hs : s < 18446744073709551616) : ofL (ints (nums s)) = s := by
  refine eq_of_bits (ofL_lt _) hs fun j hj => ?_
  rw [ofL, testBit_foldl]
  rw [Nat.zero_testBit, Bool.false_or]
  cases hb : s.testBit j with
  | true =>
    rw [List.any_eq_true]
    refine ⟨((⟨j, hj⟩ : Fin 64).val : Int), ?_, by simp; omega⟩
    exact List.mem_map.2 ⟨⟨j, hj⟩, (mem_nums _).2 hb, rfl⟩
  | false =>
    rw [List.any_eq_false]
    rintro k hk
    obtain ⟨f, hf, rfl⟩ := List.mem_map.1 hk
    have := (mem_nums _).1 hf
    intro hc
    simp at hc
    rw [hc.2] at this
    rw [hb] at this
    cases this

/-- Whether b has all that a has. -/
def inS (a b : Nat) : Bool := (nums a).all fun k => b.testBit k.val
theorem inS_iff (a b : Nat) : inS a b = true ↔ ∀ j, j < 64 → a.testBit j = true → b.testBit j = true := by
  rw [inS, List.all_eq_true]
  constructor
  · intro h j hj ha; exact h ⟨j, hj⟩ ((mem_nums _).2 ha)
  · intro h k hk; exact h k.val k.isLt ((mem_nums _).1 hk)

theorem has_val (s : Nat) (k : Fin 64) : has s (k.val : Int) = s.testBit k.val := by
  have := k.isLt
  rw [has, decide_eq_true ⟨by omega, by omega⟩, Bool.true_and, Int.toNat_natCast]
theorem shl_bit {k : Int} (h0 : 0 ≤ k) : IntKind.u64.wrap ((2 : Int) ^ min k.toNat 64) = (bitOf k : Nat) := by
  rw [IntKind.wrap_u64, u64_shl_one_var k h0]
  by_cases h : 64 ≤ k
  · rw [if_pos h, bitOf_out (by omega)]; rfl
  · rw [if_neg h, bitOf_in h0 (by omega)]; simp
theorem and_has {s : Nat} (hs : s < 18446744073709551616) (k : Int) : (bits .and .u64 (s : Int) (bitOf k : Nat) != 0) = has s k := by
  rw [u64_and_nat s (bitOf k) hs (bitOf_lt k)]
  cases h : has s k with
  | false => rw [(and_bit s k).2 h]; rfl
  | true =>
    have : s &&& bitOf k ≠ 0 := fun e => by rw [(and_bit s k).1 e] at h; cases h
    simp [this]
theorem or_with {s : Nat} (hs : s < 18446744073709551616) (k : Int) : bits .or .u64 (s : Int) (bitOf k : Nat) = (withN s k : Nat) := u64_or_nat s (bitOf k) hs (bitOf_lt k)
theorem andNot_less {s : Nat} (hs : s < 18446744073709551616) (k : Int) : bits .andNot .u64 (s : Int) (bitOf k : Nat) = (lessN s k : Nat) := u64_andNot_nat s (bitOf k) hs (bitOf_lt k)
end Go.Proofs.Ytnngkpggejmdkaa.SetM
