/-
  What the law OrderMost rests on: all are ready, the row goes around; pure. Rows of bytes.
-/
import Derived.Test.YtmfjklfjbcjeiaaOAlive
namespace Go.Proofs.Ytmfjklfjbcjeiaa
open Go.RowKit

/-- The slice value v reads as the bytes xs. -/
def RowB (w : World) (v : Value) (xs : List Int) : Prop :=
  (∀ x ∈ xs, 0 ≤ x ∧ x < 256) ∧ ((xs = [] ∧ ∃ a cap, v = .slice a 0 cap) ∨
  (∃ b off cap, v = .slice (some ⟨b, off, none⟩) xs.length cap ∧ 0 < xs.length ∧ b < w.heap.size ∧ ∀ j, j < xs.length → w.cell? ⟨b, off + j, none⟩ = some (.int .u8 (xs[j]?.getD 0))))
theorem RowB.slice {w : World} {v : Value} {xs : List Int} (h : RowB w v xs) : ∃ a c, v = .slice a xs.length c := by
  rcases h.2 with ⟨rfl, a, c, rfl⟩ | ⟨b, off, c, rfl, _⟩
  · exact ⟨a, c, rfl⟩
  · exact ⟨_, c, rfl⟩
theorem RowB.at {w W : World} {a : Option Addr} {n c : Nat} {xs : List Int} (h : RowB w (.slice a n c) xs) (hb : Below w.heap.size w W) {k : Nat} (hk : k < xs.length) :
    ∃ b off x, a = some ⟨b, off, none⟩ ∧ W.cell? ⟨b, off + k, none⟩ = some (.int .u8 x) ∧ 0 ≤ x ∧ x < 256 := by
  obtain ⟨hx, h⟩ := h
  rcases h with ⟨rfl, _⟩ | ⟨b, off, c', he, _, hlt, hc⟩
  · simp at hk
  · simp only [Value.slice.injEq] at he
    obtain ⟨rfl, -, -⟩ := he
    have hm : xs[k]?.getD 0 ∈ xs := mem_of_getDI hk
    exact ⟨b, off, _, rfl, (hb.cell (p := ⟨b, off + k, none⟩) hlt).trans (hc k hk), hx _ hm⟩

/-! ### All of so many, as bits -/
theorem has_full {m : Nat} (hm : m ≤ 6) {x : Int} (h0 : 0 ≤ x) (h1 : x < (m : Int)) : has (2 ^ m - 1) x = true := by
  rw [has, decide_eq_true (by omega), Bool.true_and, Nat.testBit_two_pow_sub_one, decide_eq_true (by omega)]
theorem chosen_full {m : Nat} (hm : m ≤ 6) {l : List Int} (h : Perm m l) : chosen (2 ^ m - 1) l = l := by
  rw [chosen, List.filter_eq_self]
  intro x hx
  have := (h.mem x).1 hx
  exact has_full hm this.1 this.2
theorem full_lt {m : Nat} (hm : m ≤ 6) : 2 ^ m - 1 < 18446744073709551616 := by
  have : 2 ^ m ≤ 2 ^ 6 := Nat.pow_le_pow_right (by decide) hm
  omega

def withN (s : Nat) (k : Int) : Nat := s ||| bitOf k
def ofL (l : List Int) : Nat := l.foldl withN 0
theorem withN_lt {s : Nat} (hs : s < 18446744073709551616) (k : Int) : withN s k < 18446744073709551616 :=
  Nat.or_lt_two_pow (n := 64) hs (bitOf_lt k)
theorem ofL_lt (l : List Int) : ofL l < 18446744073709551616 := by
  have : ∀ (l : List Int) (s : Nat), s < 18446744073709551616 → l.foldl withN s < 18446744073709551616 := by
    intro l; induction l with
    | nil => intro s h; exact h
    | cons k l ih => intro s h; exact ih _ (withN_lt h k)
  exact this l 0 (by decide)
theorem ofL_snoc (l : List Int) (k : Int) : ofL (l ++ [k]) = withN (ofL l) k := by simp [ofL]
theorem or_with {s : Nat} (hs : s < 18446744073709551616) (k : Int) : bits .or .u64 (s : Int) (bitOf k : Nat) = (withN s k : Nat) := u64_or_nat s (bitOf k) hs (bitOf_lt k)
theorem testBit_fold (l : List Int) (s j : Nat) : (l.foldl withN s).testBit j = (s.testBit j || l.any (fun k => (bitOf k).testBit j)) := by
  induction l generalizing s with
  | nil => simp
  | cons k l ih => rw [List.foldl_cons, ih, withN, Nat.testBit_or, List.any_cons, Bool.or_assoc]
theorem ofL_full {m : Nat} (hm : m ≤ 6) {l : List Int} (h : Perm m l) : ofL l = 2 ^ m - 1 := by
  refine Nat.eq_of_testBit_eq fun j => ?_
  rw [ofL, testBit_fold, Nat.testBit_two_pow_sub_one, Nat.zero_testBit, Bool.false_or]
  by_cases hj : j < m
  · rw [decide_eq_true hj, List.any_eq_true]
    refine ⟨(j : Int), (h.mem _).2 (by omega), ?_⟩
    rw [bitOf_in (by omega) (by omega), Int.toNat_natCast, Nat.testBit_two_pow_self]
  · rw [decide_eq_false hj, List.any_eq_false]
    intro k hk
    have := (h.mem k).1 hk
    rw [bitOf_in (by omega) (by omega), Nat.testBit_two_pow, decide_eq_false (by omega)]
    simp

/-! ### The row goes around -/
def rot (xs : List Int) (i : Nat) : List Int := xs.drop i ++ xs.take i
theorem rot_zero (xs : List Int) : rot xs 0 = xs := by simp [rot]
theorem rot_all (xs : List Int) : rot xs xs.length = xs := by simp [rot]
theorem rot_perm {m : Nat} {xs : List Int} (h : Perm m xs) (i : Nat) : Perm m (rot xs i) := by
  have hp : (rot xs i).Perm xs := by
    have := List.perm_append_comm (l₁ := xs.drop i) (l₂ := xs.take i)
    rwa [List.take_append_drop] at this
  refine ⟨hp.length_eq.trans h.len, (hp.nodup_iff).2 h.nd, fun x => ?_⟩
  rw [hp.mem_iff]; exact h.mem x
theorem rot_head {xs : List Int} {i : Nat} (hi : i < xs.length) : rot xs i = xs[i]?.getD 0 :: (xs.drop (i + 1) ++ xs.take i) := by
  rw [rot, List.drop_eq_getElem_cons hi, List.getElem?_eq_getElem hi]; rfl
theorem rot_took {xs : List Int} {i : Nat} (hi : i < xs.length) : tookX (rot xs i) (xs[i]?.getD 0) = rot xs (i + 1) := by
  have hh := rot_head hi
  rw [tookX, if_pos (by rw [hh]; simp), hh, List.erase_cons_head, rot, take_snocI xs i hi, List.append_assoc]
theorem age_head {x : Int} {l : List Int} : ageV (x :: l) x = (l.length : Int) := by
  have h1 : atV (x :: l) x = ((0 : Nat) : Int) := atV_first (by simp) (by simp)
  rw [ageV, if_pos (by simp), h1]; simp
theorem age_last {x : Int} {l : List Int} (h : x ∉ l) : ageV (l ++ [x]) x = 0 := by
  have h1 : atV (l ++ [x]) x = ((l.length : Nat) : Int) := atV_first (by simp) (by simpa using h)
  rw [ageV, if_pos (by simp), h1]; simp
theorem rot_age {m : Nat} {xs : List Int} (h : Perm m xs) {i : Nat} (hi : i < m) : ageV (rot xs i) (xs[i]?.getD 0) = (m : Int) - 1 := by
  have hl := (rot_perm h i).len
  rw [rot_head (by rw [h.len]; exact hi)] at hl ⊢
  rw [age_head]
  rw [List.length_cons] at hl
  omega
theorem rot_age2 {m : Nat} {xs : List Int} (h : Perm m xs) {i : Nat} (hi : i < m) : ageV (rot xs (i + 1)) (xs[i]?.getD 0) = 0 := by
  have hil : i < xs.length := by rw [h.len]; exact hi
  have hn := (rot_perm h i).nd
  rw [rot_head hil] at hn
  rw [rot, take_snocI xs i hil, ← List.append_assoc]
  exact age_last (List.nodup_cons.1 hn).1
theorem rot_pick {m : Nat} (hm : m ≤ 6) {xs : List Int} (h : Perm m xs) {i : Nat} (hi : i < m) : pickV (2 ^ m - 1) (rot xs i) = xs[i]?.getD 0 ∧ pickB (2 ^ m - 1) (rot xs i) = true := by
  rw [pickV, pickB, chosen_full hm (rot_perm h i), rot_head (by rw [h.len]; exact hi)]
  exact ⟨rfl, rfl⟩
theorem rot_tookE {xs : List Int} {i : Nat} (hi : i < xs.length) : tookE (rot xs i) (xs[i]?.getD 0) = 0 := by
  rw [tookE, if_pos (by rw [rot_head hi]; simp)]
theorem last_iff {m : Nat} {xs : List Int} (h : Perm m xs) {i : Nat} (hi : i < m) : xs[i]?.getD 0 = xs[m - 1]?.getD 0 ↔ i = m - 1 := by
  have h1 : i < xs.length := by rw [h.len]; exact hi
  have h2 : m - 1 < xs.length := by rw [h.len]; omega
  rw [List.getElem?_eq_getElem h1, List.getElem?_eq_getElem h2, Option.getD_some, Option.getD_some]
  constructor
  · intro e
    rcases Nat.lt_or_ge i (m - 1) with h3 | h3
    · exact absurd e (List.pairwise_iff_getElem.1 h.nd i (m - 1) h1 h2 h3)
    · omega
  · intro e; subst e; rfl

/-- A row of ints of the call's own, at one place. -/
theorem own_cell {W : World} {base pb po pc m : Nat} {xs : List Int} (h : W.ownsRow base 3 1 (.slice (some ⟨pb, po, none⟩) m pc) m (I64 xs)) (hl : xs.length = m) {i : Nat} (hi : i < m) : W.cell? ⟨pb, po + i, none⟩ = some (.int .i64 (xs[i]?.getD 0)) := by
  subst hl
  obtain ⟨b, off, he, _, hc⟩ := (RowI.of_owns h).at hi
  cases he; exact hc
/-- 1 shifted by so many. -/
theorem shl_full {m : Nat} (hm : m ≤ 6) : IntKind.u64.wrap ((2 : Int) ^ m) = ((2 ^ m : Nat) : Int) := by
  have : 2 ^ m ≤ 2 ^ 6 := Nat.pow_le_pow_right (by decide) hm
  rw [IntKind.wrap_u64]
  have e : ((2 : Int) ^ m) = ((2 ^ m : Nat) : Int) := by simp
  rw [e]
  generalize 2 ^ m = P at this ⊢
  omega
theorem sub_full {m : Nat} (hm : m ≤ 6) : IntKind.u64.wrap (((2 ^ m : Nat) : Int) - 1) = ((2 ^ m - 1 : Nat) : Int) := by
  have : 2 ^ m ≤ 2 ^ 6 := Nat.pow_le_pow_right (by decide) hm
  have h2 := Nat.two_pow_pos m
  rw [IntKind.wrap_u64]
  generalize 2 ^ m = P at this h2 ⊢
  omega
end Go.Proofs.Ytmfjklfjbcjeiaa
