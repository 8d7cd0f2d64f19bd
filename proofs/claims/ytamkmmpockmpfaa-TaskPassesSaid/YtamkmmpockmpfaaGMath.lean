/-
  Instructions: what each kind names, and which may be; pure.
-/
import Derived.Lib.Hide
import Derived.WalkArith
namespace Go.Proofs.Ytamkmmpockmpfaa

/-- An instruction: its kind, and four fields. -/
structure In where
  o : Nat
  a : Int
  b : Int
  c : Int
  k : Int

/-- What a kind names: 0 and 1 registers, 2 a channel, 3 a number, 4 a place, 5 a site, 6 a code. -/
def namesOf : Nat → List Nat
  | 1 => [0, 3]
  | 2 => [0, 1]
  | 3 => [4]
  | 4 => [0, 4]
  | 5 => [0, 2]
  | 6 => [0, 1, 2]
  | 7 => [2]
  | 8 => [1, 5]
  | 9 => [6]
  | _ => []
def wordL : Nat → List UInt8
  | 1 => [115, 101, 116]
  | 2 => [97, 100, 100]
  | 3 => [106, 117, 109, 112]
  | 4 => [122, 101, 114, 111]
  | 5 => [115, 101, 110, 100]
  | 6 => [114, 101, 99, 118]
  | 7 => [99, 108, 111, 115, 101]
  | 8 => [115, 101, 108, 101, 99, 116]
  | 9 => [115, 112, 97, 119, 110]
  | 10 => [101, 110, 100]
  | _ => []
def known (o : Nat) : Bool := decide (1 ≤ o ∧ o ≤ 10)
/-- The kind of a word; 0 of others. -/
def In.get (x : In) : Nat → Int
  | 0 => x.a
  | 1 => x.b
  | 2 => x.c
  | _ => x.k
def In.put (x : In) (n : Nat) (v : Int) : In := match n with
  | 0 => { x with a := v }
  | 1 => { x with b := v }
  | 2 => { x with c := v }
  | _ => { x with k := v }
def In.zero : In := ⟨0, 0, 0, 0, 0⟩
def In.only (o : Nat) : In := ⟨o, 0, 0, 0, 0⟩
def In.eq (x y : In) : Bool := x.o == y.o && (x.a == y.a && (x.b == y.b && (x.c == y.c && x.k == y.k)))
theorem In.eq_iff {x y : In} : In.eq x y = true ↔ x = y := by
  cases x; cases y
  simp [In.eq]
theorem In.eq_refl (x : In) : In.eq x x = true := In.eq_iff.2 rfl

def I64b (i : Int) : Prop := -9223372036854775808 ≤ i ∧ i ≤ 9223372036854775807
structure In.ok (x : In) : Prop where
  o : x.o < 256
  a : I64b x.a
  b : I64b x.b
  c : I64b x.c
  k : I64b x.k
theorem i64_zero : I64b 0 := ⟨by omega, by omega⟩
theorem In.ok.get {x : In} (h : x.ok) (n : Nat) : I64b (x.get n) := by
  unfold In.get
  split
  · exact h.a
  · exact h.b
  · exact h.c
  · exact h.k
theorem In.ok.put {x : In} (h : x.ok) (n : Nat) {v : Int} (hv : I64b v) : (x.put n v).ok := by
  unfold In.put
  split
  · exact ⟨h.o, hv, h.b, h.c, h.k⟩
  · exact ⟨h.o, h.a, hv, h.c, h.k⟩
  · exact ⟨h.o, h.a, h.b, hv, h.k⟩
  · exact ⟨h.o, h.a, h.b, h.c, hv⟩
theorem In.ok_only {o : Nat} (h : o < 256) : (In.only o).ok := ⟨h, i64_zero, i64_zero, i64_zero, i64_zero⟩
theorem put_o (x : In) (n : Nat) (v : Int) : (x.put n v).o = x.o := by unfold In.put; split <;> rfl

/-- What x names, and the number of each. -/
def pairs (x : In) : List (Nat × Int) := (namesOf x.o).map fun n => (n, x.get n)
def bareStep (y : In) (p : Nat × Int) : In := y.put p.1 p.2
def bareOf (x : In) : In := (pairs x).foldl bareStep (In.only x.o)
/-- Has x a kind, and is all that it does not name 0? -/
def okI (x : In) : Bool := known x.o && In.eq (bareOf x) x

theorem known_iff {o : Nat} : known o = true ↔ 1 ≤ o ∧ o ≤ 10 := by simp [known]
theorem known_cases {o : Nat} (h : known o = true) : o = 1 ∨ o = 2 ∨ o = 3 ∨ o = 4 ∨ o = 5 ∨ o = 6 ∨ o = 7 ∨ o = 8 ∨ o = 9 ∨ o = 10 := by
  have := known_iff.1 h; omega
theorem wordL_out {o : Nat} (h : known o = false) : wordL o = [] := by
  unfold wordL
  split <;> first | rfl | (exfalso; revert h; decide)
theorem namesOf_out {o : Nat} (h : known o = false) : namesOf o = [] := by
  unfold namesOf
  split <;> first | rfl | (exfalso; revert h; decide)
theorem namesOf_len (o : Nat) : (namesOf o).length ≤ 3 := by unfold namesOf; split <;> simp
theorem namesOf_lt {o n : Nat} (h : n ∈ namesOf o) : n < 7 := by
  unfold namesOf at h
  split at h <;> simp at h <;> omega
theorem pairs_len (x : In) : (pairs x).length ≤ 3 := by unfold pairs; rw [List.length_map]; exact namesOf_len _
theorem pairs_get {x : In} {p : Nat × Int} (h : p ∈ pairs x) : p.1 ∈ namesOf x.o ∧ p.2 = x.get p.1 := by
  unfold pairs at h
  obtain ⟨n, hn, rfl⟩ := List.mem_map.1 h
  exact ⟨hn, rfl⟩
theorem pairs_ok {x : In} (hx : x.ok) {p : Nat × Int} (h : p ∈ pairs x) : p.1 < 7 ∧ I64b p.2 := by
  obtain ⟨h1, h2⟩ := pairs_get h
  exact ⟨namesOf_lt h1, by rw [h2]; exact hx.get _⟩
theorem prefix_mem {α : Type} {l m : List α} (h : l <+: m) {x : α} (hx : x ∈ l) : x ∈ m := h.subset hx

theorem fold_ok {y : In} (hy : y.ok) {ps : List (Nat × Int)} (h : ∀ p ∈ ps, I64b p.2) : (ps.foldl bareStep y).ok := by
  induction ps generalizing y with
  | nil => exact hy
  | cons p t ih => exact ih (hy.put p.1 (h p (by simp))) (fun q hq => h q (by simp [hq]))
end Go.Proofs.Ytamkmmpockmpfaa
