/-
  Instructions: what each kind names, its word, its line, what is read of a line; pure.
-/
import Derived.Lib.Hide
import Derived.Lib.ItoaNum
import Derived.Lib.ItoaMem
import Derived.Lib.ItoaLen
import Derived.Lib.ParseIntB
import Derived.WalkArith
namespace Go.Proofs.YthellmecdmolcaaDoor

/-- An instruction: its kind, and four fields. -/
structure In where
  o : Nat
  a : Int
  b : Int
  c : Int
  k : Int

/-- What a kind names: 0 and 1 registers, 2 a channel, 3 a number, 4 a place, 5 a site, 6 a code. -/
def namesOf : Nat → List Nat
  | 1 => [0, 3]
  | 2 => [0, 1]
  | 3 => [4]
  | 4 => [0, 4]
  | 5 => [0, 2]
  | 6 => [0, 1, 2]
  | 7 => [2]
  | 8 => [1, 5]
  | 9 => [6]
  | _ => []
def wordL : Nat → List UInt8
  | 1 => [115, 101, 116]
  | 2 => [97, 100, 100]
  | 3 => [106, 117, 109, 112]
  | 4 => [122, 101, 114, 111]
  | 5 => [115, 101, 110, 100]
  | 6 => [114, 101, 99, 118]
  | 7 => [99, 108, 111, 115, 101]
  | 8 => [115, 101, 108, 101, 99, 116]
  | 9 => [115, 112, 97, 119, 110]
  | 10 => [101, 110, 100]
  | _ => []
def known (o : Nat) : Bool := decide (1 ≤ o ∧ o ≤ 10)
/-- The kind of a word; 0 of others. -/
def opOf (s : List UInt8) : Nat :=
  if s = wordL 1 then 1 else if s = wordL 2 then 2 else if s = wordL 3 then 3 else if s = wordL 4 then 4 else if s = wordL 5 then 5
  else if s = wordL 6 then 6 else if s = wordL 7 then 7 else if s = wordL 8 then 8 else if s = wordL 9 then 9 else if s = wordL 10 then 10 else 0

def In.get (x : In) : Nat → Int
  | 0 => x.a
  | 1 => x.b
  | 2 => x.c
  | _ => x.k
def In.put (x : In) (n : Nat) (v : Int) : In := match n with
  | 0 => { x with a := v }
  | 1 => { x with b := v }
  | 2 => { x with c := v }
  | _ => { x with k := v }
def In.zero : In := ⟨0, 0, 0, 0, 0⟩
def In.only (o : Nat) : In := ⟨o, 0, 0, 0, 0⟩
def In.eq (x y : In) : Bool := x.o == y.o && (x.a == y.a && (x.b == y.b && (x.c == y.c && x.k == y.k)))
theorem In.eq_iff {x y : In} : In.eq x y = true ↔ x = y := by
  cases x; cases y
  simp [In.eq]
theorem In.eq_refl (x : In) : In.eq x x = true := In.eq_iff.2 rfl

def I64b (i : Int) : Prop := -9223372036854775808 ≤ i ∧ i ≤ 9223372036854775807
structure In.ok (x : In) : Prop where
  o : x.o < 256
  a : I64b x.a
  b : I64b x.b
  c : I64b x.c
  k : I64b x.k
theorem i64_zero : I64b 0 := ⟨by omega, by omega⟩
theorem In.ok.get {x : In} (h : x.ok) (n : Nat) : I64b (x.get n) := by
  unfold In.get
  split
  · exact h.a
  · exact h.b
  · exact h.c
  · exact h.k
theorem In.ok.put {x : In} (h : x.ok) (n : Nat) {v : Int} (hv : I64b v) : (x.put n v).ok := by
  unfold In.put
  split
  · exact ⟨h.o, hv, h.b, h.c, h.k⟩
  · exact ⟨h.o, h.a, hv, h.c, h.k⟩
  · exact ⟨h.o, h.a, h.b, hv, h.k⟩
  · exact ⟨h.o, h.a, h.b, h.c, hv⟩
theorem In.ok_only {o : Nat} (h : o < 256) : (In.only o).ok := ⟨h, i64_zero, i64_zero, i64_zero, i64_zero⟩
theorem put_o (x : In) (n : Nat) (v : Int) : (x.put n v).o = x.o := by unfold In.put; split <;> rfl

/-- What x names, and the number of each. -/
def pairs (x : In) : List (Nat × Int) := (namesOf x.o).map fun n => (n, x.get n)
def bareStep (y : In) (p : Nat × Int) : In := y.put p.1 p.2
def bareOf (x : In) : In := (pairs x).foldl bareStep (In.only x.o)
/-- Has x a kind, and is all that it does not name 0? -/
def okI (x : In) : Bool := known x.o && In.eq (bareOf x) x
def lineStep (s : List UInt8) (p : Nat × Int) : List UInt8 := (s ++ [32]) ++ Lib.itoa p.2
def lineL (x : In) : List UInt8 := (pairs x).foldl lineStep (wordL x.o)

/-! ### Reading -/
def cut1 : List UInt8 → List UInt8
  | [] => []
  | c :: t => if c = 32 then [] else c :: cut1 t
def cut2 : List UInt8 → List UInt8
  | [] => []
  | c :: t => if c = 32 then t else cut2 t
def parseV (l : List UInt8) : Int := match Lib.parseIntB 64 l with
  | .ok v => v
  | .range => Lib.intSat 64 l
  | _ => 0
abbrev Rd := List UInt8 × In
def readStep (st : Rd) (p : Nat × Int) : Rd := (cut2 st.1, st.2.put p.1 (parseV (cut1 st.1)))
def readX (s : List UInt8) : In := ((pairs (In.only (opOf (cut1 s)))).foldl readStep (cut2 s, In.only (opOf (cut1 s)))).2
def readB (s : List UInt8) : Bool := okI (readX s) && lineL (readX s) == s
def readV (s : List UInt8) : In := if readB s then readX s else In.zero
def readE (s : List UInt8) : Int := if readB s then 0 else 7
def lineV (x : In) : List UInt8 := if okI x then lineL x else []
def lineE (x : In) : Int := if okI x then 0 else 2

theorem known_iff {o : Nat} : known o = true ↔ 1 ≤ o ∧ o ≤ 10 := by simp [known]
theorem known_cases {o : Nat} (h : known o = true) : o = 1 ∨ o = 2 ∨ o = 3 ∨ o = 4 ∨ o = 5 ∨ o = 6 ∨ o = 7 ∨ o = 8 ∨ o = 9 ∨ o = 10 := by
  have := known_iff.1 h; omega
theorem wordL_out {o : Nat} (h : known o = false) : wordL o = [] := by
  unfold wordL
  split <;> first | rfl | (exfalso; revert h; decide)
theorem namesOf_out {o : Nat} (h : known o = false) : namesOf o = [] := by
  unfold namesOf
  split <;> first | rfl | (exfalso; revert h; decide)
theorem opOf_word {o : Nat} (h : known o = true) : opOf (wordL o) = o := by
  rcases known_cases h with rfl | rfl | rfl | rfl | rfl | rfl | rfl | rfl | rfl | rfl <;> decide
theorem opOf_lt (s : List UInt8) : opOf s ≤ 10 := by
  unfold opOf
  repeat' split
  all_goals omega
theorem opOf_known {s : List UInt8} (h : known (opOf s) = true) : wordL (opOf s) = s := by
  revert h
  unfold opOf
  repeat' split
  all_goals first | (intro _; symm; assumption) | (intro h; exact absurd h (by decide))
theorem opOf_is {s : List UInt8} {o : Nat} (h : known o = true) (e : wordL o = s) : opOf s = o := by rw [← e]; exact opOf_word h
theorem opOf_none {s : List UInt8} (h : ∀ o, known o = true → wordL o ≠ s) : opOf s = 0 := by
  by_cases hk : known (opOf s) = true
  · exact absurd (opOf_known hk) (h _ hk)
  · have := opOf_lt s
    have h2 : ¬ (1 ≤ opOf s ∧ opOf s ≤ 10) := fun h => hk (known_iff.2 h)
    omega
theorem namesOf_len (o : Nat) : (namesOf o).length ≤ 3 := by unfold namesOf; split <;> simp
theorem namesOf_lt {o n : Nat} (h : n ∈ namesOf o) : n < 7 := by
  unfold namesOf at h
  split at h <;> simp at h <;> omega
theorem pairs_len (x : In) : (pairs x).length ≤ 3 := by unfold pairs; rw [List.length_map]; exact namesOf_len _
theorem pairs_get {x : In} {p : Nat × Int} (h : p ∈ pairs x) : p.1 ∈ namesOf x.o ∧ p.2 = x.get p.1 := by
  unfold pairs at h
  obtain ⟨n, hn, rfl⟩ := List.mem_map.1 h
  exact ⟨hn, rfl⟩
theorem pairs_ok {x : In} (hx : x.ok) {p : Nat × Int} (h : p ∈ pairs x) : p.1 < 7 ∧ I64b p.2 := by
  obtain ⟨h1, h2⟩ := pairs_get h
  exact ⟨namesOf_lt h1, by rw [h2]; exact hx.get _⟩
theorem prefix_mem {α : Type} {l m : List α} (h : l <+: m) {x : α} (hx : x ∈ l) : x ∈ m := h.subset hx

theorem parse_b (v : Int) (l : List UInt8) (h : Lib.parseIntB 64 l = .ok v) : I64b v := by
  cases l with
  | nil => cases h
  | cons c r =>
    simp only [Lib.parseIntB] at h
    generalize Lib.parseUintB 64 (if c.toNat = 43 ∨ c.toNat = 45 then r else c :: r) = q at h
    rcases q with u | _ | _
    rotate_left 1
    · cases h
    · cases h
    · simp only at h
      unfold I64b
      by_cases hn : c.toNat = 45
      · simp only [hn, not_true_eq_false, false_and, if_false, true_and, if_true] at h
        split at h
        · cases h
        · simp only [Lib.NumEnd.ok.injEq] at h
          omega
      · simp only [hn, not_false_eq_true, true_and, false_and, if_false] at h
        split at h
        · cases h
        · simp only [Lib.NumEnd.ok.injEq] at h
          omega
theorem sat_b (l : List UInt8) : I64b (Lib.intSat 64 l) := by
  unfold Lib.intSat I64b
  split <;> exact ⟨by decide, by decide⟩
theorem parseV_b (l : List UInt8) : I64b (parseV l) := by
  unfold parseV
  split
  · exact parse_b _ _ (by assumption)
  · exact sat_b l
  · exact i64_zero
theorem parseV_nil : parseV [] = 0 := rfl

theorem fold_ok {y : In} (hy : y.ok) {ps : List (Nat × Int)} (h : ∀ p ∈ ps, I64b p.2) : (ps.foldl bareStep y).ok := by
  induction ps generalizing y with
  | nil => exact hy
  | cons p t ih => exact ih (hy.put p.1 (h p (by simp))) (fun q hq => h q (by simp [hq]))
theorem read_ok {st : Rd} (h : st.2.ok) (ps : List (Nat × Int)) : (ps.foldl readStep st).2.ok := by
  induction ps generalizing st with
  | nil => exact h
  | cons p t ih => exact ih (h.put p.1 (parseV_b _))
theorem readX_ok (s : List UInt8) : (readX s).ok := read_ok (In.ok_only (by have := opOf_lt (cut1 s); omega)) _
theorem readV_ok (s : List UInt8) : (readV s).ok := by
  unfold readV
  split
  · exact readX_ok s
  · exact In.ok_only (o := 0) (by omega)
theorem cut2_len (s : List UInt8) : (cut2 s).length ≤ s.length := by
  induction s with
  | nil => exact Nat.le_refl _
  | cons c t ih => unfold cut2; split <;> simp <;> omega
theorem cut1_len (s : List UInt8) : (cut1 s).length ≤ s.length := by
  induction s with
  | nil => exact Nat.le_refl _
  | cons c t ih => unfold cut1; split <;> simp <;> omega
theorem read_len {st : Rd} (ps : List (Nat × Int)) : (ps.foldl readStep st).1.length ≤ st.1.length := by
  induction ps generalizing st with
  | nil => exact Nat.le_refl _
  | cons p t ih => exact Nat.le_trans ih (cut2_len _)
theorem line_len {s : List UInt8} {ps : List (Nat × Int)} (h : ∀ p ∈ ps, I64b p.2) : (ps.foldl lineStep s).length ≤ s.length + 22 * ps.length := by
  induction ps generalizing s with
  | nil => simp
  | cons p t ih =>
    have h1 := ih (s := lineStep s p) (fun q hq => h q (by simp [hq]))
    have h2 : (lineStep s p).length ≤ s.length + 22 := by
      have := Lib.itoa_length_le p.2 (h p (by simp)).1 (h p (by simp)).2
      simp [lineStep]; omega
    simp only [List.foldl_cons, List.length_cons]
    omega
theorem wordL_len (o : Nat) : (wordL o).length ≤ 6 := by unfold wordL; split <;> simp
theorem lineL_len {x : In} (h : x.ok) : (lineL x).length ≤ 72 := by
  have h1 := line_len (s := wordL x.o) (ps := pairs x) (fun p hp => (pairs_ok h hp).2)
  have h2 := wordL_len x.o
  have h3 := pairs_len x
  unfold lineL
  omega

/-! ### A line is read as what it is of -/
theorem cut1_app {p t : List UInt8} (h : (32 : UInt8) ∉ p) : cut1 (p ++ 32 :: t) = p := by
  induction p with
  | nil => rfl
  | cons c r ih =>
    simp only [List.mem_cons, not_or] at h
    simp only [List.cons_append, cut1]
    rw [if_neg (fun e => h.1 e.symm), ih h.2]
theorem cut2_app {p t : List UInt8} (h : (32 : UInt8) ∉ p) : cut2 (p ++ 32 :: t) = t := by
  induction p with
  | nil => rfl
  | cons c r ih =>
    simp only [List.mem_cons, not_or] at h
    simp only [List.cons_append, cut2]
    rw [if_neg (fun e => h.1 e.symm), ih h.2]
theorem cut1_all {p : List UInt8} (h : (32 : UInt8) ∉ p) : cut1 p = p := by
  induction p with
  | nil => rfl
  | cons c r ih =>
    simp only [List.mem_cons, not_or] at h
    simp only [cut1]
    rw [if_neg (fun e => h.1 e.symm), ih h.2]
theorem cut2_all {p : List UInt8} (h : (32 : UInt8) ∉ p) : cut2 p = [] := by
  induction p with
  | nil => rfl
  | cons c r ih =>
    simp only [List.mem_cons, not_or] at h
    simp only [cut2]
    rw [if_neg (fun e => h.1 e.symm), ih h.2]
theorem word_no (o : Nat) : (32 : UInt8) ∉ wordL o := by unfold wordL; split <;> decide
theorem digits_no (u : Nat) : (32 : UInt8) ∉ Lib.decDigits u := by
  rw [Lib.decDigits_eq]
  intro h
  obtain ⟨t, _, ht⟩ := List.mem_map.1 h
  have := congrArg UInt8.toNat ht
  have h10 := Nat.mod_lt (u / 10 ^ (Lib.nDigits u - 1 - t)) (show 0 < 10 by decide)
  unfold Lib.dg at this
  rw [UInt8.toNat_ofNat', Nat.mod_eq_of_lt (by omega)] at this
  have e32 : (32 : UInt8).toNat = 32 := by decide
  omega
theorem itoa_no (v : Int) : (32 : UInt8) ∉ Lib.itoa v := by
  unfold Lib.itoa
  split
  · simp only [List.mem_cons, not_or]
    exact ⟨by decide, digits_no _⟩
  · exact digits_no _
/-- What stands behind the word. -/
def tailL (ps : List (Nat × Int)) : List UInt8 := ps.flatMap fun p => 32 :: Lib.itoa p.2
theorem line_tail (s : List UInt8) (ps : List (Nat × Int)) : ps.foldl lineStep s = s ++ tailL ps := by
  induction ps generalizing s with
  | nil => simp [tailL]
  | cons p t ih =>
    rw [List.foldl_cons, ih]
    simp [lineStep, tailL]
theorem cut_tail {p : List UInt8} (h : (32 : UInt8) ∉ p) (ps : List (Nat × Int)) : cut1 (p ++ tailL ps) = p ∧ cut2 (p ++ tailL ps) = (tailL ps).drop 1 := by
  cases ps with
  | nil => simp only [tailL, List.flatMap_nil, List.append_nil]; exact ⟨cut1_all h, cut2_all h⟩
  | cons q t =>
    simp only [tailL, List.flatMap_cons, List.cons_append, List.drop_succ_cons, List.drop_zero]
    exact ⟨cut1_app h, cut2_app h⟩
theorem read_tail (hP : ∀ v, I64b v → parseV (Lib.itoa v) = v) (ns : List Nat) (x0 x : In) (hx : x.ok) (y : In) :
    (ns.map fun n => (n, x0.get n)).foldl readStep ((tailL (ns.map fun n => (n, x.get n))).drop 1, y) = ([], (ns.map fun n => (n, x.get n)).foldl bareStep y) := by
  induction ns generalizing y with
  | nil => rfl
  | cons n t ih =>
    simp only [List.map_cons, List.foldl_cons]
    have e : (tailL ((n, x.get n) :: t.map fun n => (n, x.get n))).drop 1 = Lib.itoa (x.get n) ++ tailL (t.map fun n => (n, x.get n)) := by simp [tailL]
    obtain ⟨h1, h2⟩ := cut_tail (itoa_no (x.get n)) (t.map fun n => (n, x.get n))
    rw [e, show readStep (Lib.itoa (x.get n) ++ tailL (t.map fun n => (n, x.get n)), y) (n, x0.get n) = ((tailL (t.map fun n => (n, x.get n))).drop 1, y.put n (x.get n)) by
      simp only [readStep]; rw [h1, h2, hP _ (hx.get n)], ih]
    rfl
theorem read_line (hP : ∀ v, I64b v → parseV (Lib.itoa v) = v) {x : In} (hx : x.ok) (h : okI x = true) : readX (lineL x) = x := by
  have hk : known x.o = true := by unfold okI at h; simp only [Bool.and_eq_true] at h; exact h.1
  have he : bareOf x = x := by unfold okI at h; simp only [Bool.and_eq_true] at h; exact In.eq_iff.1 h.2
  obtain ⟨h1, h2⟩ := cut_tail (word_no x.o) (pairs x)
  have hl : lineL x = wordL x.o ++ tailL (pairs x) := line_tail _ _
  rw [readX, hl, h1, h2, opOf_word hk]
  have := read_tail hP (namesOf x.o) (In.only x.o) x hx (In.only x.o)
  show ((pairs (In.only x.o)).foldl readStep ((tailL (pairs x)).drop 1, In.only x.o)).2 = x
  rw [show pairs (In.only x.o) = (namesOf x.o).map fun n => (n, (In.only x.o).get n) from rfl, show pairs x = (namesOf x.o).map fun n => (n, x.get n) from rfl, this]
  exact he
theorem readB_line (hP : ∀ v, I64b v → parseV (Lib.itoa v) = v) {x : In} (hx : x.ok) (h : okI x = true) : readB (lineL x) = true ∧ readV (lineL x) = x := by
  have e := read_line hP hx h
  have hb : readB (lineL x) = true := by unfold readB; rw [e, h]; simp
  exact ⟨hb, by unfold readV; rw [if_pos hb, e]⟩

/-! ### Digits are read as their number -/
theorem dg_val (u j : Nat) : (Lib.dg u j).toNat = 48 + u / 10 ^ j % 10 := by
  have h10 := Nat.mod_lt (u / 10 ^ j) (show 0 < 10 by decide)
  unfold Lib.dg
  rw [UInt8.toNat_ofNat', Nat.mod_eq_of_lt (by omega)]
theorem parse_digits (M : Nat) (hM : M < 18446744073709551616) (u : Nat) (hu : u ≤ M) (m acc : Nat) (hacc : acc = u / 10 ^ m) :
    Lib.parseUintM M acc ((List.range m).map fun t => Lib.dg u (m - 1 - t)) = .ok u := by
  induction m generalizing acc with
  | zero => simp at hacc; subst hacc; simp [Lib.parseUintM]
  | succ m ih =>
    rw [List.range_succ_eq_map, List.map_cons, List.map_map]
    have hd := dg_val u m
    have h10 := Nat.mod_lt (u / 10 ^ m) (show 0 < 10 by decide)
    have hq : acc = u / 10 ^ m / 10 := by rw [hacc, Nat.div_div_eq_div_mul, Nat.pow_succ]
    have hnext : acc * 10 + (u / 10 ^ m % 10) = u / 10 ^ m := by rw [hq]; omega
    have hle : u / 10 ^ m ≤ u := Nat.div_le_self _ _
    simp only [Nat.add_sub_cancel, Nat.sub_zero]
    rw [Lib.parseUintM, if_pos (by rw [hd]; omega), if_neg (by omega), if_neg (by rw [hd]; omega), show acc * 10 + ((Lib.dg u m).toNat - 48) = u / 10 ^ m by rw [hd]; omega]
    rw [show ((fun t => Lib.dg u (m - t)) ∘ Nat.succ) = fun t => Lib.dg u (m - 1 - t) from funext fun t => by simp only [Function.comp]; congr 1; omega]
    exact ih _ rfl
theorem parse_nat {u : Nat} (hu : u < 18446744073709551616) : Lib.parseUintB 64 (Lib.decDigits u) = .ok u := by
  have hne : Lib.decDigits u ≠ [] := fun h => by
    have := congrArg List.length h
    rw [Lib.decDigits_length] at this
    have := Lib.nDigits_pos u
    simp at *; omega
  rw [Lib.parseUintB, if_neg hne, Lib.decDigits_eq]
  exact parse_digits _ (by decide) u (by have : 2 ^ 64 - 1 = 18446744073709551615 := by decide
                                         omega) _ _ (by rw [Nat.div_eq_of_lt (Lib.lt_pow_nDigits u)])
theorem digits_head {u : Nat} {c : UInt8} {r : List UInt8} (h : Lib.decDigits u = c :: r) : 48 ≤ c.toNat ∧ c.toNat ≤ 57 := by
  rw [Lib.decDigits_eq] at h
  have hm : c ∈ (List.range (Lib.nDigits u)).map fun t => Lib.dg u (Lib.nDigits u - 1 - t) := by rw [h]; simp
  obtain ⟨t, _, ht⟩ := List.mem_map.1 hm
  have := dg_val u (Lib.nDigits u - 1 - t)
  have h10 := Nat.mod_lt (u / 10 ^ (Lib.nDigits u - 1 - t)) (show 0 < 10 by decide)
  rw [ht] at this
  omega
theorem parse_itoa (v : Int) (h : I64b v) : parseV (Lib.itoa v) = v := by
  have h1 := h.1
  have h2 := h.2
  have key : Lib.parseIntB 64 (Lib.itoa v) = .ok v := by
    by_cases hn : v < 0
    · obtain ⟨u, hu⟩ : ∃ u : Nat, v = -(u : Int) := ⟨v.natAbs, by omega⟩
      subst hu
      rw [Lib.itoa_neg u (by omega), Lib.parseIntB]
      have e45 : (45 : UInt8).toNat = 45 := by decide
      simp only [e45]
      rw [if_pos (by decide), parse_nat (by omega)]
      simp only
      rw [if_neg (by simp), if_neg (by simp; omega)]
      simp
    · obtain ⟨u, hu⟩ : ∃ u : Nat, v = (u : Int) := ⟨v.toNat, by omega⟩
      subst hu
      rw [Lib.itoa_nonneg]
      have hp := parse_nat (u := u) (by omega)
      cases hd : Lib.decDigits u with
      | nil => rw [hd] at hp; simp [Lib.parseUintB] at hp
      | cons c r =>
        have hc := digits_head hd
        rw [Lib.parseIntB]
        rw [if_neg (by omega), ← hd, hp]
        simp only
        rw [if_neg (by simp; omega), if_neg (by omega), if_neg (by omega)]
  unfold parseV
  rw [key]
end Go.Proofs.YthellmecdmolcaaDoor
