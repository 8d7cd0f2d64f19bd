/-
  Entries of a log: what each kind names, its word, which may be, its bytes, what is read of bytes, its line; pure.
-/
import Derived.Lib.Hide
import Derived.WalkArith
import Derived.Test.YtnngkpggejmdkaaProg
namespace Go.Proofs.Ytnngkpggejmdkaa

/-- An entry: at which pick, its kind; worker, task, other task, channel, case, the other's case; two values; whether it was so; an error; a set. -/
structure En where
  a : Int
  k : Nat
  w : Int
  t : Int
  p : Int
  c : Int
  b : Int
  q : Int
  v : Int
  u : Int
  o : Bool
  e : Int
  s : Nat

def I64b (i : Int) : Prop := -9223372036854775808 ≤ i ∧ i ≤ 9223372036854775807
structure En.ok (x : En) : Prop where
  a : I64b x.a
  k : x.k < 256
  w : I64b x.w
  t : I64b x.t
  p : I64b x.p
  c : I64b x.c
  b : I64b x.b
  q : I64b x.q
  v : I64b x.v
  u : I64b x.u
  e : I64b x.e
  s : x.s < 18446744073709551616

/-- What a kind names: 0 worker, 1 task, 2 and 3 the other task, 4 channel, 5 and 6 case, 7 the other's case, 8 and 9 values, 10 whether it was so, 11 an error, 12 a set. -/
def namesOf : Nat → List Nat
  | 1 => [1, 4, 5, 8]
  | 2 => [1, 4, 5, 8, 10]
  | 3 => [1, 2, 4, 5, 7, 8, 10]
  | 4 => [1, 2, 4, 5, 7, 8, 9]
  | 5 => [1, 4]
  | 6 => [1, 2, 4, 5]
  | 7 => [1]
  | 8 => [1]
  | 9 => [1, 2, 6]
  | 10 => [1]
  | 11 => [1, 3, 11]
  | 21 => [0, 1]
  | 22 => [0, 1]
  | 23 => [0, 1]
  | 24 => [0, 1]
  | 25 => [0, 1, 12]
  | 26 => [0]
  | _ => []
def wordL : Nat → List UInt8
  | 1 => [115, 101, 110, 100]
  | 2 => [114, 101, 99, 118]
  | 3 => [109, 101, 101, 116]
  | 4 => [114, 101, 102, 105, 108, 108]
  | 5 => [99, 108, 111, 115, 101]
  | 6 => [119, 97, 107, 101]
  | 7 => [100, 101, 102, 97, 117, 108, 116]
  | 8 => [98, 108, 111, 99, 107]
  | 9 => [115, 112, 97, 119, 110]
  | 10 => [101, 110, 100]
  | 11 => [102, 97, 117, 108, 116]
  | 21 => [100, 105, 115, 112, 97, 116, 99, 104]
  | 22 => [114, 101, 97, 100, 121]
  | 23 => [112, 114, 101, 101, 109, 112, 116]
  | 24 => [108, 111, 99, 107, 101, 100]
  | 25 => [112, 111, 108, 108]
  | 26 => [102, 114, 101, 101]
  | _ => []
def known (k : Nat) : Bool := decide ((1 ≤ k ∧ k ≤ 11) ∨ (21 ≤ k ∧ k ≤ 26))
/-- The set of what a kind names, as bits. -/
def maskN : Nat → Nat
  | 1 => 306
  | 2 => 1330
  | 3 => 1462
  | 4 => 950
  | 5 => 18
  | 6 => 54
  | 7 => 2
  | 8 => 2
  | 9 => 70
  | 10 => 2
  | 11 => 2058
  | 21 => 3
  | 22 => 3
  | 23 => 3
  | 24 => 3
  | 25 => 4099
  | 26 => 1
  | _ => 0

def flagI (b : Bool) : Int := if b then 1 else 0
/-- A number of 64 bits as one with a sign, and back. -/
def sgn (s : Nat) : Int := if s < 9223372036854775808 then (s : Int) else (s : Int) - 18446744073709551616
def uns (v : Int) : Nat := if 0 ≤ v then v.toNat else (v + 18446744073709551616).toNat
theorem uns_sgn (s : Nat) (h : s < 18446744073709551616) : uns (sgn s) = s := by unfold uns sgn; split <;> split <;> omega
theorem sgn_uns (v : Int) (h : I64b v) : sgn (uns v) = v := by unfold I64b at h; unfold uns sgn; split <;> split <;> omega
theorem sgn_b (s : Nat) (h : s < 18446744073709551616) : I64b (sgn s) := by unfold I64b sgn; split <;> omega
theorem uns_lt (v : Int) (h : I64b v) : uns v < 18446744073709551616 := by unfold I64b at h; unfold uns; split <;> omega
theorem uns_pos {v : Int} (h : 0 ≤ v) : uns v = v.toNat := by unfold uns; rw [if_pos h]

def En.get (x : En) : Nat → Int
  | 0 => x.w
  | 1 => x.t
  | 2 => x.p
  | 3 => x.p
  | 4 => x.c
  | 5 => x.b
  | 6 => x.b
  | 7 => x.q
  | 8 => x.v
  | 9 => x.u
  | 10 => flagI x.o
  | 11 => x.e
  | _ => sgn x.s
def En.setS (x : En) (z : Nat) : En := { x with s := z }
def En.put (x : En) (n : Nat) (v : Int) : En := match n with
  | 0 => { x with w := v }
  | 1 => { x with t := v }
  | 2 => { x with p := v }
  | 3 => { x with p := v }
  | 4 => { x with c := v }
  | 5 => { x with b := v }
  | 6 => { x with b := v }
  | 7 => { x with q := v }
  | 8 => { x with v := v }
  | 9 => { x with u := v }
  | 10 => { x with o := v != 0 }
  | 11 => { x with e := v }
  | _ => x.setS (uns v)
/-- At, and a kind, and nothing more. -/
def En.only (a : Int) (k : Nat) : En := ⟨a, k, 0, 0, 0, 0, 0, 0, 0, 0, false, 0, 0⟩
def En.zero : En := En.only 0 0
def En.eq (x y : En) : Bool := x.a == y.a && (x.k == y.k && (x.w == y.w && (x.t == y.t && (x.p == y.p && (x.c == y.c && (x.b == y.b && (x.q == y.q && (x.v == y.v && (x.u == y.u && (x.o == y.o && (x.e == y.e && x.s == y.s)))))))))))
theorem En.eq_iff {x y : En} : En.eq x y = true ↔ x = y := by
  cases x; cases y
  simp [En.eq]
theorem En.eq_refl (x : En) : En.eq x x = true := En.eq_iff.2 rfl
theorem En.eq_decide (x y : En) [Decidable (x = y)] : En.eq x y = decide (x = y) := by
  by_cases h : x = y
  · rw [decide_eq_true h]; exact En.eq_iff.2 h
  · rw [decide_eq_false h]
    cases e : En.eq x y with
    | false => rfl
    | true => exact absurd (En.eq_iff.1 e) h
instance : DecidableEq En := fun x y => if h : En.eq x y = true then isTrue (En.eq_iff.1 h) else isFalse fun e => h (En.eq_iff.2 e)

theorem i64_zero : I64b 0 := ⟨by omega, by omega⟩
theorem flagI_b (b : Bool) : I64b (flagI b) := by unfold I64b flagI; split <;> omega
theorem En.ok.get {x : En} (h : x.ok) (n : Nat) : I64b (x.get n) := by
  unfold En.get
  split <;> first | exact h.w | exact h.t | exact h.p | exact h.c | exact h.b | exact h.q | exact h.v | exact h.u | exact flagI_b _ | exact h.e | exact sgn_b _ h.s
theorem En.ok.put {x : En} (h : x.ok) (n : Nat) {v : Int} (hv : I64b v) : (x.put n v).ok := by
  obtain ⟨a, k, w, t, p, c, b, q, vv, u, e, s⟩ := h
  have hu := uns_lt v hv
  unfold En.put
  split
  case h_13 => exact ⟨a, k, w, t, p, c, b, q, vv, u, e, hu⟩
  all_goals (constructor <;> assumption)
theorem En.ok_only {a : Int} {k : Nat} (ha : I64b a) (h : k < 256) : (En.only a k).ok := ⟨ha, h, i64_zero, i64_zero, i64_zero, i64_zero, i64_zero, i64_zero, i64_zero, i64_zero, i64_zero, by show (0 : Nat) < _; omega⟩
theorem put_a (x : En) (n : Nat) (v : Int) : (x.put n v).a = x.a := by unfold En.put; split <;> rfl
theorem put_k (x : En) (n : Nat) (v : Int) : (x.put n v).k = x.k := by unfold En.put; split <;> rfl

/-- May a number stand there? -/
def mayN (n : Nat) (v : Int) : Bool := match n with
  | 0 => decide (0 ≤ v) && decide (v < 255)
  | 1 => decide (0 ≤ v) && decide (v < 32)
  | 2 => decide (0 ≤ v) && decide (v < 32)
  | 3 => decide (-1 ≤ v) && decide (v < 32)
  | 4 => decide (0 ≤ v) && decide (v < 6)
  | 5 => decide (-1 ≤ v) && decide (v < 6)
  | 6 => decide (0 ≤ v) && decide (v < 8)
  | 7 => decide (-1 ≤ v) && decide (v < 6)
  | 10 => decide (0 ≤ v) && decide (v < 2)
  | 11 => v == 140 || (v == 141 || (v == 142 || v == 143))
  | _ => true

def mayStep (x : En) (b : Bool) (n : Nat) : Bool := b && mayN n (x.get n)
def bareStep (x y : En) (n : Nat) : En := y.put n (x.get n)
def mayAll (x : En) : Bool := (namesOf x.k).foldl (mayStep x) (known x.k)
def bareOf (x : En) : En := (namesOf x.k).foldl (bareStep x) (En.only x.a x.k)
/-- Whether it may be. -/
def okB (x : En) : Bool := mayAll x && (decide (0 ≤ x.a) && En.eq (bareOf x) x)

theorem known_out {k : Nat} (h : known k = false) : ¬ ((1 ≤ k ∧ k ≤ 11) ∨ (21 ≤ k ∧ k ≤ 26)) := by simpa [known] using h
theorem known_cases {k : Nat} (h : known k = true) : k = 1 ∨ k = 2 ∨ k = 3 ∨ k = 4 ∨ k = 5 ∨ k = 6 ∨ k = 7 ∨ k = 8 ∨ k = 9 ∨ k = 10 ∨ k = 11 ∨ k = 21 ∨ k = 22 ∨ k = 23 ∨ k = 24 ∨ k = 25 ∨ k = 26 := by
  have : (1 ≤ k ∧ k ≤ 11) ∨ (21 ≤ k ∧ k ≤ 26) := by simpa [known] using h
  omega
theorem namesOf_out {k : Nat} (h : known k = false) : namesOf k = [] := by
  unfold namesOf; split <;> first | rfl | (exfalso; revert h; decide)
theorem wordL_out {k : Nat} (h : known k = false) : wordL k = [] := by
  unfold wordL; split <;> first | rfl | (exfalso; revert h; decide)
theorem maskN_out {k : Nat} (h : known k = false) : maskN k = 0 := by
  unfold maskN; split <;> first | rfl | (exfalso; revert h; decide)
theorem namesOf_lt {k n : Nat} (h : n ∈ namesOf k) : n < 13 := by
  revert h; unfold namesOf; split <;> (simp; try omega)
theorem namesOf_len (k : Nat) : (namesOf k).length ≤ 7 := by unfold namesOf; split <;> simp
theorem wordL_len (k : Nat) : (wordL k).length ≤ 8 := by unfold wordL; split <;> simp
theorem maskN_lt (k : Nat) : maskN k < 8192 := by unfold maskN; split <;> omega
/-- The bits tell the names. -/
theorem names_mask (k : Nat) : namesOf k = (List.range 13).filter fun n => (maskN k).testBit n := by
  cases h : known k with
  | false => rw [namesOf_out h, maskN_out h]; decide
  | true => rcases known_cases h with rfl | rfl | rfl | rfl | rfl | rfl | rfl | rfl | rfl | rfl | rfl | rfl | rfl | rfl | rfl | rfl | rfl <;> decide

/-! ### Which field a name means -/
def fld : Nat → Nat
  | 3 => 2
  | 6 => 5
  | n => n
theorem lt13 {n : Nat} (h : n < 13) : n = 0 ∨ n = 1 ∨ n = 2 ∨ n = 3 ∨ n = 4 ∨ n = 5 ∨ n = 6 ∨ n = 7 ∨ n = 8 ∨ n = 9 ∨ n = 10 ∨ n = 11 ∨ n = 12 := by omega
theorem gp0 (x : En) {n : Nat} (v : Int) (hn : n < 13) (h : fld n ≠ 0) : (x.put 0 v).get n = x.get n := by
  rcases lt13 hn with rfl | rfl | rfl | rfl | rfl | rfl | rfl | rfl | rfl | rfl | rfl | rfl | rfl <;> first | rfl | exact absurd rfl h
theorem gp1 (x : En) {n : Nat} (v : Int) (hn : n < 13) (h : fld n ≠ 1) : (x.put 1 v).get n = x.get n := by
  rcases lt13 hn with rfl | rfl | rfl | rfl | rfl | rfl | rfl | rfl | rfl | rfl | rfl | rfl | rfl <;> first | rfl | exact absurd rfl h
theorem gp2 (x : En) {n : Nat} (v : Int) (hn : n < 13) (h : fld n ≠ 2) : (x.put 2 v).get n = x.get n := by
  rcases lt13 hn with rfl | rfl | rfl | rfl | rfl | rfl | rfl | rfl | rfl | rfl | rfl | rfl | rfl <;> first | rfl | exact absurd rfl h
theorem gp3 (x : En) {n : Nat} (v : Int) (hn : n < 13) (h : fld n ≠ 2) : (x.put 3 v).get n = x.get n := by
  rcases lt13 hn with rfl | rfl | rfl | rfl | rfl | rfl | rfl | rfl | rfl | rfl | rfl | rfl | rfl <;> first | rfl | exact absurd rfl h
theorem gp4 (x : En) {n : Nat} (v : Int) (hn : n < 13) (h : fld n ≠ 4) : (x.put 4 v).get n = x.get n := by
  rcases lt13 hn with rfl | rfl | rfl | rfl | rfl | rfl | rfl | rfl | rfl | rfl | rfl | rfl | rfl <;> first | rfl | exact absurd rfl h
theorem gp5 (x : En) {n : Nat} (v : Int) (hn : n < 13) (h : fld n ≠ 5) : (x.put 5 v).get n = x.get n := by
  rcases lt13 hn with rfl | rfl | rfl | rfl | rfl | rfl | rfl | rfl | rfl | rfl | rfl | rfl | rfl <;> first | rfl | exact absurd rfl h
theorem gp6 (x : En) {n : Nat} (v : Int) (hn : n < 13) (h : fld n ≠ 5) : (x.put 6 v).get n = x.get n := by
  rcases lt13 hn with rfl | rfl | rfl | rfl | rfl | rfl | rfl | rfl | rfl | rfl | rfl | rfl | rfl <;> first | rfl | exact absurd rfl h
theorem gp7 (x : En) {n : Nat} (v : Int) (hn : n < 13) (h : fld n ≠ 7) : (x.put 7 v).get n = x.get n := by
  rcases lt13 hn with rfl | rfl | rfl | rfl | rfl | rfl | rfl | rfl | rfl | rfl | rfl | rfl | rfl <;> first | rfl | exact absurd rfl h
theorem gp8 (x : En) {n : Nat} (v : Int) (hn : n < 13) (h : fld n ≠ 8) : (x.put 8 v).get n = x.get n := by
  rcases lt13 hn with rfl | rfl | rfl | rfl | rfl | rfl | rfl | rfl | rfl | rfl | rfl | rfl | rfl <;> first | rfl | exact absurd rfl h
theorem gp9 (x : En) {n : Nat} (v : Int) (hn : n < 13) (h : fld n ≠ 9) : (x.put 9 v).get n = x.get n := by
  rcases lt13 hn with rfl | rfl | rfl | rfl | rfl | rfl | rfl | rfl | rfl | rfl | rfl | rfl | rfl <;> first | rfl | exact absurd rfl h
theorem gp10 (x : En) {n : Nat} (v : Int) (hn : n < 13) (h : fld n ≠ 10) : (x.put 10 v).get n = x.get n := by
  rcases lt13 hn with rfl | rfl | rfl | rfl | rfl | rfl | rfl | rfl | rfl | rfl | rfl | rfl | rfl <;> first | rfl | exact absurd rfl h
theorem gp11 (x : En) {n : Nat} (v : Int) (hn : n < 13) (h : fld n ≠ 11) : (x.put 11 v).get n = x.get n := by
  rcases lt13 hn with rfl | rfl | rfl | rfl | rfl | rfl | rfl | rfl | rfl | rfl | rfl | rfl | rfl <;> first | rfl | exact absurd rfl h
theorem gp12 (x : En) {n : Nat} (v : Int) (hn : n < 13) (h : fld n ≠ 12) : (x.put 12 v).get n = x.get n := by
  have e : x.put 12 v = x.setS (uns v) := rfl
  rw [e]
  clear e
  generalize uns v = z
  have h12 : n ≠ 12 := fun e => h (by subst e; rfl)
  unfold En.get
  split
  case h_13 =>
    exfalso
    simp only [imp_false] at *
    omega
  all_goals rfl
theorem get_put_ne (x : En) {n m : Nat} (v : Int) (hn : n < 13) (hm : m < 13) (h : fld n ≠ fld m) : (x.put m v).get n = x.get n := by
  rcases lt13 hm with rfl | rfl | rfl | rfl | rfl | rfl | rfl | rfl | rfl | rfl | rfl | rfl | rfl
  · exact gp0 x v hn h
  · exact gp1 x v hn h
  · exact gp2 x v hn h
  · exact gp3 x v hn h
  · exact gp4 x v hn h
  · exact gp5 x v hn h
  · exact gp6 x v hn h
  · exact gp7 x v hn h
  · exact gp8 x v hn h
  · exact gp9 x v hn h
  · exact gp10 x v hn h
  · exact gp11 x v hn h
  · exact gp12 x v hn h
/-- What a number there is: it may be, and is one of 64 bits. -/
theorem get_put (x : En) {n : Nat} {v : Int} (hn : n < 13) (hv : I64b v) (h : mayN n v = true) : (x.put n v).get n = v := by
  rcases lt13 hn with rfl | rfl | rfl | rfl | rfl | rfl | rfl | rfl | rfl | rfl | rfl | rfl | rfl <;> try rfl
  · have : v = 0 ∨ v = 1 := by
      simp [mayN] at h
      omega
    rcases this with rfl | rfl <;> rfl
  · exact sgn_uns v hv
theorem names_apart (k : Nat) : (namesOf k).Pairwise fun n m => fld n ≠ fld m := by
  cases h : known k with
  | false => rw [namesOf_out h]; exact List.Pairwise.nil
  | true => rcases known_cases h with rfl | rfl | rfl | rfl | rfl | rfl | rfl | rfl | rfl | rfl | rfl | rfl | rfl | rfl | rfl | rfl | rfl <;> decide

/-! ### Numbers that are laid, one for each name -/
def layAll (y : En) (ps : List (Nat × Int)) : En := ps.foldl (fun y p => y.put p.1 p.2) y
theorem lay_a (ps : List (Nat × Int)) : ∀ y : En, (layAll y ps).a = y.a ∧ (layAll y ps).k = y.k := by
  induction ps with
  | nil => intro y; exact ⟨rfl, rfl⟩
  | cons p ps ih => intro y; have := ih (y.put p.1 p.2); rw [put_a, put_k] at this; exact this
theorem lay_ok {ps : List (Nat × Int)} (h : ∀ p ∈ ps, I64b p.2) : ∀ {y : En}, y.ok → (layAll y ps).ok := by
  induction ps with
  | nil => intro y hy; exact hy
  | cons p ps ih => intro y hy; exact ih (fun q hq => h q (List.mem_cons_of_mem _ hq)) (hy.put p.1 (h p (List.mem_cons_self ..)))
theorem lay_get_other {ps : List (Nat × Int)} {n : Nat} (hn : n < 13) (hl : ∀ p ∈ ps, p.1 < 13) (h : ∀ p ∈ ps, fld n ≠ fld p.1) : ∀ y : En, (layAll y ps).get n = y.get n := by
  induction ps with
  | nil => intro y; rfl
  | cons p ps ih =>
    intro y
    have h1 := ih (fun q hq => hl q (List.mem_cons_of_mem _ hq)) (fun q hq => h q (List.mem_cons_of_mem _ hq)) (y.put p.1 p.2)
    exact h1.trans (get_put_ne y _ hn (hl p (List.mem_cons_self ..)) (h p (List.mem_cons_self ..)))
theorem lay_get {ps : List (Nat × Int)} (hl : ∀ p ∈ ps, p.1 < 13) (hv : ∀ p ∈ ps, I64b p.2) (hm : ∀ p ∈ ps, mayN p.1 p.2 = true) (ha : ps.Pairwise fun p q => fld p.1 ≠ fld q.1) :
    ∀ y : En, ∀ p ∈ ps, (layAll y ps).get p.1 = p.2 := by
  induction ps with
  | nil => intro y p hp; cases hp
  | cons p ps ih =>
    intro y q hq
    obtain ⟨h1, h2⟩ := List.pairwise_cons.1 ha
    rcases List.mem_cons.1 hq with rfl | hq
    · have := lay_get_other (hl q (List.mem_cons_self ..)) (fun r hr => hl r (List.mem_cons_of_mem _ hr)) h1 (y.put q.1 q.2)
      exact this.trans (get_put y (hl q (List.mem_cons_self ..)) (hv q (List.mem_cons_self ..)) (hm q (List.mem_cons_self ..)))
    · exact ih (fun r hr => hl r (List.mem_cons_of_mem _ hr)) (fun r hr => hv r (List.mem_cons_of_mem _ hr)) (fun r hr => hm r (List.mem_cons_of_mem _ hr)) h2 (y.put p.1 p.2) q hq
def pairsOf (x : En) (ns : List Nat) : List (Nat × Int) := ns.map fun n => (n, x.get n)
theorem bare_lay (x y : En) (ns : List Nat) : ns.foldl (bareStep x) y = layAll y (pairsOf x ns) := by
  unfold layAll pairsOf
  rw [List.foldl_map]
  rfl
theorem may_fold (x : En) (ns : List Nat) (b : Bool) : ns.foldl (mayStep x) b = (b && ns.all fun n => mayN n (x.get n)) := by
  induction ns generalizing b with
  | nil => simp
  | cons n ns ih => rw [List.foldl_cons, ih, List.all_cons, mayStep, Bool.and_assoc]
theorem okB_iff {x : En} : okB x = true ↔ known x.k = true ∧ (∀ n ∈ namesOf x.k, mayN n (x.get n) = true) ∧ 0 ≤ x.a ∧ bareOf x = x := by
  unfold okB mayAll
  rw [may_fold]
  simp [En.eq_iff, and_assoc]
/-- What is laid of numbers that may be, may be. -/
theorem okB_lay {a : Int} {k : Nat} {ps : List (Nat × Int)} (hk : known k = true) (ha : 0 ≤ a) (hn : ps.map (·.1) = namesOf k) (hv : ∀ p ∈ ps, I64b p.2) (hm : ∀ p ∈ ps, mayN p.1 p.2 = true) :
    okB (layAll (En.only a k) ps) = true ∧ pairsOf (layAll (En.only a k) ps) (namesOf k) = ps := by
  obtain ⟨h1, h2⟩ := lay_a ps (En.only a k)
  have hl : ∀ p ∈ ps, p.1 < 13 := fun p hp => namesOf_lt (k := k) (by rw [← hn]; exact List.mem_map_of_mem hp)
  have hap : ps.Pairwise fun p q => fld p.1 ≠ fld q.1 := by
    have := names_apart k
    rw [← hn, List.pairwise_map] at this
    exact this
  have hg := lay_get hl hv hm hap (En.only a k)
  have hp : pairsOf (layAll (En.only a k) ps) (namesOf k) = ps := by
    unfold pairsOf
    rw [← hn, List.map_map]
    exact (List.map_congr_left fun p hp => by show (p.1, _) = p; rw [hg p hp]).trans (List.map_id _)
  refine ⟨okB_iff.2 ⟨by rw [h2]; exact hk, fun n hn' => ?_, by rw [h1]; exact ha, ?_⟩, hp⟩
  · rw [h2] at hn'
    obtain ⟨p, hpm, rfl⟩ := List.mem_map.1 (by rw [hn]; exact hn' : n ∈ ps.map (·.1))
    rw [hg p hpm]; exact hm p hpm
  · unfold bareOf
    rw [bare_lay, h1, h2]
    exact congrArg (layAll (En.only a k)) hp
/-- What it names makes it. -/
theorem ok_lay {x : En} (h : okB x = true) : layAll (En.only x.a x.k) (pairsOf x (namesOf x.k)) = x := by
  have := (okB_iff.1 h).2.2.2
  unfold bareOf at this
  rwa [bare_lay] at this

end Go.Proofs.Ytnngkpggejmdkaa
