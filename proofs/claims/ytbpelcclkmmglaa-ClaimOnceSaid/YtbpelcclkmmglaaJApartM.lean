/-
  Steps in memory; what a turn is behind an opening, behind a claim; what the law ClaimApart holds at the head of a round.
-/
import Derived.Test.YtbpelcclkmmglaaJNew
namespace Go.Proofs.Ytbpelcclkmmglaa
open Go.RowKit

/-- The rest of any number, as int(uint(k) % m) has it. -/
theorem mod_row (k : Int) {m : Int} (h1 : 0 < m) (h2 : m ≤ 64) : ∃ a : Nat, (a : Int) < m ∧ wrap64 ((IntKind.u64.wrap k).tmod m) = (a : Int) := by
  have h0 : 0 ≤ IntKind.u64.wrap k := by rw [IntKind.wrap_u64]; omega
  have h3 := Int.emod_lt_of_pos (IntKind.u64.wrap k) h1
  have h4 := Int.emod_nonneg (IntKind.u64.wrap k) (Int.ne_of_gt h1)
  refine ⟨((IntKind.u64.wrap k) % m).toNat, by omega, ?_⟩
  rw [Int.tmod_eq_emod_of_nonneg h0, IntWalk.wrap64_in _ (by omega)]
  omega

/-- One step in memory: what is done, which claim, which turn. -/
structure StepAt (w : World) (b o : Nat) (s : Int × Int × Nat) : Prop where
  d : w.cell? ⟨b, o, none⟩ = some (.int .i64 s.1)
  k : w.cell? ⟨b, o + 1, none⟩ = some (.int .i64 s.2.1)
  t : w.cell? ⟨b, o + 2, none⟩ = some (.int .u64 (s.2.2 : Int))
  k1 : -9223372036854775808 ≤ s.2.1
  k2 : s.2.1 ≤ 9223372036854775807
  t2 : s.2.2 < 18446744073709551616

/-- The slice value v reads as these steps. -/
def Steps (w : World) (v : Value) (ss : List (Int × Int × Nat)) : Prop :=
  (ss = [] ∧ ∃ a cap, v = .slice a 0 cap) ∨
  (∃ b off cap, v = .slice (some ⟨b, off, none⟩) ss.length cap ∧ 0 < ss.length ∧ ∀ j, j < ss.length → StepAt w b (off + j * 3) (ss[j]?.getD (0, 0, 0)))

theorem nth_set_ne {vs : List Nat} {i j v : Nat} (h : i ≠ j) : nth (vs.set i v) j = nth vs j := by unfold nth; rw [List.getElem?_set_ne h]
theorem nth_set_eq {vs : List Nat} {i v : Nat} (h : i < vs.length) : nth (vs.set i v) i = v := by unfold nth; rw [List.getElem?_set_self h]; rfl
theorem turnE_set_ne {base n : Nat} {vs : List Nat} {a o v : Nat} (ho : o < n) (h : a ≠ o) : turnE base n (vs.set (base + a) v) (o : Int) = turnE base n vs (o : Int) := by
  rw [turnE_nat ho, turnE_nat ho, nth_set_ne (by omega)]
theorem turnE_set_eq {base n : Nat} {vs : List Nat} {o v : Nat} (ho : o < n) (hl : base + n ≤ vs.length) : turnE base n (vs.set (base + o) v) (o : Int) = v := by
  rw [turnE_nat ho, nth_set_eq (by omega)]

theorem turn_open_ne {base n : Nat} {vs : List Nat} {a o : Nat} (ho : o < n) (h : a ≠ o) : turnE base n (openV base n vs (a : Int)) (o : Int) = turnE base n vs (o : Int) := by
  unfold openV; split
  · rw [Int.toNat_natCast]; exact turnE_set_ne ho h
  · rfl
theorem turn_claim_ne {base n : Nat} {vs : List Nat} {a o : Nat} (t : Nat) (ho : o < n) (h : a ≠ o) : turnE base n (claimV base n vs (a : Int) t) (o : Int) = turnE base n vs (o : Int) := by
  unfold claimV; split
  · rw [Int.toNat_natCast]; exact turnE_set_ne ho h
  · rfl
theorem turn_open_eq {base n : Nat} {vs : List Nat} {o : Nat} (ho : o < n) (hl : base + n ≤ vs.length) : turnE base n (openV base n vs (o : Int)) (o : Int) = openE base n vs (o : Int) := by
  unfold openV openE; split
  · rw [Int.toNat_natCast]; exact turnE_set_eq ho hl
  · rfl
theorem turn_claim_eq {base n : Nat} {vs : List Nat} {o : Nat} (t : Nat) (ho : o < n) (hl : base + n ≤ vs.length) : turnE base n (claimV base n vs (o : Int) t) (o : Int) = if claimE base n vs (o : Int) t then up t else turnE base n vs (o : Int) := by
  unfold claimV; split
  · rw [Int.toNat_natCast]; exact turnE_set_eq ho hl
  · rfl
theorem turnE_le {base n m : Nat} {vs : List Nat} (h : ∀ x ∈ vs, x ≤ m) (k : Int) : turnE base n vs k ≤ m := by
  unfold turnE nth; split
  · cases hg : vs[base + k.toNat]? with
    | none => simp
    | some x => simpa using h x (List.mem_of_getElem? hg)
  · omega
theorem up_le {x m : Nat} (h : x ≤ m) : up x ≤ m + 1 := by unfold up; omega
theorem openV_le {base n m : Nat} {vs : List Nat} (h : ∀ x ∈ vs, x ≤ m) (k : Int) : ∀ x ∈ openV base n vs k, x ≤ m + 1 := by
  unfold openV; split
  · intro x hx
    rcases List.mem_or_eq_of_mem_set hx with h1 | rfl
    · have := h x h1; omega
    · exact up_le (turnE_le h k)
  · intro x hx; have := h x hx; omega
theorem claimV_le {base n m : Nat} {vs : List Nat} (h : ∀ x ∈ vs, x ≤ m) (k : Int) (t : Nat) : ∀ x ∈ claimV base n vs k t, x ≤ m + 1 := by
  unfold claimV; split
  · rename_i hc
    intro x hx
    rcases List.mem_or_eq_of_mem_set hx with h1 | rfl
    · have := h x h1; omega
    · unfold claimE at hc
      have : turnE base n vs k = t := by simp at hc; exact hc.2
      rw [← this]; exact up_le (turnE_le h k)
  · intro x hx; have := h x hx; omega
theorem turn_open_up {base n m : Nat} {vs : List Nat} {o : Nat} (ho : o < n) (hl : base + n ≤ vs.length) (h : ∀ x ∈ vs, x ≤ m) (hm : m < 18446744073709551615) : turnE base n vs (o : Int) ≤ turnE base n (openV base n vs (o : Int)) (o : Int) := by
  rw [turn_open_eq ho hl]
  have := turnE_le (base := base) (n := n) h (o : Int)
  unfold openE; split
  · rw [up_eq (by omega)]; omega
  · exact Nat.le_refl _
theorem turn_claim_up {base n m : Nat} {vs : List Nat} {o : Nat} (t : Nat) (ho : o < n) (hl : base + n ≤ vs.length) (h : ∀ x ∈ vs, x ≤ m) (hm : m < 18446744073709551615) : turnE base n vs (o : Int) ≤ turnE base n (claimV base n vs (o : Int) t) (o : Int) := by
  rw [turn_claim_eq t ho hl]
  have := turnE_le (base := base) (n := n) h (o : Int)
  split
  · rename_i hc
    unfold claimE at hc
    have : turnE base n vs (o : Int) = t := by simp at hc; exact hc.2
    rw [← this, up_eq (by omega)]; omega
  · exact Nat.le_refl _

/-- Eight claims on twenty cells, none of which is more than m. -/
structure Apt (w0 W : World) (L P Q B V m : Nat) (vs : List Nat) (c : Nat) : Prop where
  clm : Clm W L P Q B 0 8
  cels : Cels W B V vs c
  but : But [] w0 W
  own : w0.heap.size ≤ B ∧ w0.heap.size ≤ V
  len : vs.length = 20
  low : ∀ x ∈ vs, x ≤ m
theorem Apt.next {w0 W W' : World} {L P Q B V m : Nat} {vs vs' : List Nat} {c c' : Nat} (h : Apt w0 W L P Q B V m vs c) (hC : Cels W' B V vs' c') (hg : But [B, V] W W') (hl : vs'.length = vs.length) (hm : ∀ x ∈ vs', x ≤ m + 1) : Apt w0 W' L P Q B V (m + 1) vs' c' :=
  ⟨h.clm.cels h.cels hg, hC, h.but.own hg h.own.1 h.own.2, h.own, hl.trans h.len, hm⟩
end Go.Proofs.Ytbpelcclkmmglaa
