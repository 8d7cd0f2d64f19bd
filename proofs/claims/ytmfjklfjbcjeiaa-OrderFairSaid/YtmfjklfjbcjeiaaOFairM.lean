/-
  What the law OrderFair rests on: how often each one is passed over, and how many stand ahead of it, are together no more than n less 1; pure. Rows of sets; a row of ints that was made.
-/
import Derived.Test.YtmfjklfjbcjeiaaOMostM
namespace Go.Proofs.Ytmfjklfjbcjeiaa
open Go.RowKit

/-- The slice value v reads as the sets xs. -/
def RowS (w : World) (v : Value) (xs : List Nat) : Prop :=
  (∀ x ∈ xs, x < 18446744073709551616) ∧ ((xs = [] ∧ ∃ a cap, v = .slice a 0 cap) ∨
  (∃ b off cap, v = .slice (some ⟨b, off, none⟩) xs.length cap ∧ 0 < xs.length ∧ b < w.heap.size ∧ ∀ j, j < xs.length → w.cell? ⟨b, off + j, none⟩ = some (.int .u64 ((xs[j]?.getD 0 : Nat) : Int))))
theorem RowS.slice {w : World} {v : Value} {xs : List Nat} (h : RowS w v xs) : ∃ a c, v = .slice a xs.length c := by
  rcases h.2 with ⟨rfl, a, c, rfl⟩ | ⟨b, off, c, rfl, _⟩
  · exact ⟨a, c, rfl⟩
  · exact ⟨_, c, rfl⟩
theorem RowS.at {w W : World} {a : Option Addr} {n c : Nat} {xs : List Nat} (h : RowS w (.slice a n c) xs) (hb : Below w.heap.size w W) {k : Nat} (hk : k < xs.length) :
    ∃ b off x, a = some ⟨b, off, none⟩ ∧ W.cell? ⟨b, off + k, none⟩ = some (.int .u64 ((x : Nat) : Int)) ∧ x < 18446744073709551616 := by
  obtain ⟨hx, h⟩ := h
  rcases h with ⟨rfl, _⟩ | ⟨b, off, c', he, _, hlt, hc⟩
  · simp at hk
  · simp only [Value.slice.injEq] at he
    obtain ⟨rfl, -, -⟩ := he
    have hm : xs[k]?.getD 0 ∈ xs := by rw [List.getElem?_eq_getElem hk]; simp
    exact ⟨b, off, _, rfl, (hb.cell (p := ⟨b, off + k, none⟩) hlt).trans (hc k hk), hx _ hm⟩

/-! ### A row of ints that was made -/
/-- Block V is a row of these ints, and no more. -/
def Arr (W : World) (V : Nat) (P : List Int) : Prop := W.heap[V]? = some (.cells (I64 P).toArray 3 (0, 0))
theorem Arr.lt {W : World} {V : Nat} {P : List Int} (h : Arr W V P) : V < W.heap.size := (Array.getElem?_eq_some_iff.1 h).1
theorem Arr.cell {W : World} {V : Nat} {P : List Int} (h : Arr W V P) {k : Nat} (hk : k < P.length) : W.cell? ⟨V, k, none⟩ = some (.int .i64 (P[k]?.getD 0)) := by
  simp [World.cell?, show W.heap[V]? = _ from h, I64, List.getElem?_map, List.getElem?_eq_getElem hk]
theorem Arr.frozen {W : World} {V : Nat} {P : List Int} (h : Arr W V P) (k : Nat) : W.frozen? ⟨V, k, none⟩ = false := by simp [World.frozen?, show W.heap[V]? = _ from h]
theorem Arr.set {W : World} {V : Nat} {P : List Int} (h : Arr W V P) (k : Nat) (x : Int) : Arr (W.setCell ⟨V, k, none⟩ (.int .i64 x)) V (P.set k x) := by
  refine (heap_set_same _ h).trans ?_
  rw [List.setIfInBounds_toArray]
  simp [I64, List.map_set]
theorem Arr.but {W W' : World} {S : List Nat} {V : Nat} {P : List Int} (h : Arr W V P) (hb : But S W W') (hV : V ∉ S) : Arr W' V P := (hb.block V h.lt hV).trans h
theorem Arr.made {W : World} {base m : Nat} (h : W.ownsRow base 3 1 (.slice (some ⟨base, 0, none⟩) m m) m (madeCells (Value.int .i64 0).cells (m * 1)).toList) : Arr W base (List.replicate m 0) := by
  rcases h.2 with ⟨h0, _⟩ | ⟨g, cap, cur, he, _, hg, _, _, hs, ht⟩
  · cases h0
  · simp only [Value.slice.injEq, Option.some.injEq, Addr.mk.injEq] at he
    obtain ⟨⟨rfl, -, -⟩, -, rfl⟩ := he
    refine (show W.heap[base]? = _ from hg).trans ?_
    have e : cur.toList = I64 (List.replicate m 0) := by
      rw [Nat.mul_one] at hs ht
      rw [List.take_of_length_le (by simp [hs])] at ht
      rw [ht]
      apply List.ext_getElem?
      intro j
      by_cases hj : j < m
      · simp [madeCells, I64, Value.cells, hj]
        rw [show j % 1 = 0 by omega]; rfl
      · rw [List.getElem?_eq_none (by simp [madeCells]; omega), List.getElem?_eq_none (by simp [I64]; omega)]
    rw [show cur = cur.toList.toArray by simp, e]

/-! ### The first one that is ready -/
theorem pick_parts {s : Nat} {xs : List Int} {k : Int} (h : chosen s xs ≠ []) (hk : k = pickV s xs) : ∃ pre post, xs = pre ++ k :: post ∧ (∀ x ∈ pre, has s x = false) ∧ has s k = true := by
  cases e : chosen s xs with
  | nil => exact absurd e h
  | cons y t =>
    obtain ⟨pre, post, h1, h2, h3, _⟩ := List.filter_eq_cons_iff.1 e
    rw [pickV, e] at hk
    obtain rfl : k = y := by simpa using hk
    exact ⟨pre, post, h1, fun x hx => by simpa using h2 x hx, h3⟩
theorem pick_is {s m : Nat} {xs : List Int} (h : Perm m xs) (hm : m ≤ 6) (hs : s < 2 ^ m) : chosen s xs ≠ [] ↔ s ≠ 0 := by
  constructor
  · intro h1 e
    subst e
    apply h1
    rw [chosen, List.filter_eq_nil_iff]
    intro x _
    simp [has]
  · intro h1 e
    apply h1
    refine Nat.eq_of_testBit_eq fun j => ?_
    rw [Nat.zero_testBit]
    by_cases hj : j < m
    · have hx : ((j : Nat) : Int) ∈ xs := (h.mem _).2 (by omega)
      rw [chosen, List.filter_eq_nil_iff] at e
      have := e _ hx
      rw [has, decide_eq_true (by omega), Bool.true_and, Int.toNat_natCast] at this
      simpa using this
    · exact Nat.testBit_lt_two_pow (Nat.lt_of_lt_of_le hs (Nat.pow_le_pow_right (by decide) (by omega)))
theorem pickB_eq (s : Nat) (xs : List Int) : pickB s xs = decide (chosen s xs ≠ []) := by
  rw [pickB]; cases chosen s xs <;> simp
theorem and_full_lt (s m : Nat) : s &&& (2 ^ m - 1) < 2 ^ m := by
  rw [Nat.and_two_pow_sub_one_eq_mod]; exact Nat.mod_lt _ (Nat.two_pow_pos m)

/-! ### How often each one is passed over -/
def nth (P : List Int) (c : Nat) : Int := P[c]?.getD 0
structure FairI (m : Nat) (xs P : List Int) : Prop where
  len : P.length = m
  low : ∀ c, c < m → 0 ≤ nth P c
  top : ∀ (i c : Nat), xs[i]? = some (c : Int) → nth P c + (i : Int) ≤ (m : Int) - 1
/-- It is ready, and another one is taken. -/
def hit (s : Nat) (k : Int) (c : Nat) : Bool := decide ((c : Int) ≠ k) && has s (c : Int)
def bump (s : Nat) (k : Int) (P : List Int) (c : Nat) : List Int := (List.range P.length).map fun j => nth P j + if j < c ∧ hit s k j = true then 1 else 0
theorem bump_len (s : Nat) (k : Int) (P : List Int) (c : Nat) : (bump s k P c).length = P.length := by simp [bump]
theorem nth_bump {s : Nat} {k : Int} {P : List Int} {c j : Nat} (hj : j < P.length) : nth (bump s k P c) j = nth P j + if j < c ∧ hit s k j = true then 1 else 0 := by
  rw [nth, bump, List.getElem?_map, List.getElem?_range hj]; rfl
theorem ext_nth {P Q : List Int} (h : P.length = Q.length) (hn : ∀ j, j < P.length → nth P j = nth Q j) : P = Q := by
  apply List.ext_getElem?
  intro j
  by_cases hj : j < P.length
  · have := hn j hj
    rw [nth, nth, List.getElem?_eq_getElem hj, List.getElem?_eq_getElem (by omega)] at this
    rw [List.getElem?_eq_getElem hj, List.getElem?_eq_getElem (by omega)]
    simpa using this
  · rw [List.getElem?_eq_none (by omega), List.getElem?_eq_none (by omega)]
theorem nth_set {P : List Int} {c j : Nat} (x : Int) (hc : c < P.length) : nth (P.set c x) j = if j = c then x else nth P j := by
  rw [nth]
  by_cases e : j = c
  · subst e; rw [if_pos rfl, List.getElem?_set_self hc]; rfl
  · rw [if_neg e, List.getElem?_set_ne (by omega)]; rfl
theorem bump_zero (s : Nat) (k : Int) (P : List Int) : bump s k P 0 = P := by
  refine ext_nth (bump_len _ _ _ _) fun j hj => ?_
  rw [nth_bump (by rwa [bump_len] at hj), if_neg (by omega)]; omega
theorem bump_hit {s : Nat} {k : Int} {P : List Int} {c : Nat} (hc : c < P.length) (h : hit s k c = true) : (bump s k P c).set c (nth P c + 1) = bump s k P (c + 1) := by
  refine ext_nth (by rw [List.length_set, bump_len, bump_len]) fun j hj => ?_
  rw [List.length_set, bump_len] at hj
  rw [nth_set _ (by rw [bump_len]; exact hc), nth_bump hj, nth_bump hj]
  by_cases e : j = c
  · subst e; rw [if_pos rfl, if_pos ⟨by omega, h⟩]
  · rw [if_neg e]
    congr 1
    by_cases e2 : j < c ∧ hit s k j = true
    · rw [if_pos e2, if_pos ⟨by omega, e2.2⟩]
    · rw [if_neg e2, if_neg (fun e3 => e2 ⟨by omega, e3.2⟩)]
theorem bump_miss {s : Nat} {k : Int} {P : List Int} {c : Nat} (h : hit s k c = false) : bump s k P (c + 1) = bump s k P c := by
  refine ext_nth (by rw [bump_len, bump_len]) fun j hj => ?_
  rw [bump_len] at hj
  rw [nth_bump hj, nth_bump hj]
  congr 1
  by_cases e2 : j < c ∧ hit s k j = true
  · rw [if_pos e2, if_pos ⟨by omega, e2.2⟩]
  · rw [if_neg e2, if_neg (fun e3 => e2 ⟨?_, e3.2⟩)]
    rcases Nat.lt_or_ge j c with h1 | h1
    · exact h1
    · obtain rfl : j = c := by omega
      rw [h] at e3; exact absurd e3.2 (by simp)
theorem bump_at {s : Nat} {k : Int} {P : List Int} {c : Nat} (hc : c < P.length) : nth (bump s k P c) c = nth P c := by
  rw [nth_bump hc, if_neg (by omega)]; omega

theorem FairI.start {m : Nat} {xs : List Int} (h : xs.length = m) : FairI m xs (List.replicate m 0) := by
  have h0 : ∀ c, nth (List.replicate m 0) c = 0 := fun c => by
    rw [nth, List.getElem?_replicate]; split <;> rfl
  refine ⟨by simp, fun c _ => by rw [h0]; omega, fun i c hi => ?_⟩
  rw [h0]
  have := (List.getElem?_eq_some_iff.1 hi).1
  omega
/-- None is passed over too often. -/
theorem FairI.check {m s : Nat} {xs P pre post : List Int} {k : Int} (h : FairI m xs P) (hp : Perm m xs) (he : xs = pre ++ k :: post) (hpre : ∀ x ∈ pre, has s x = false) {c : Nat} (hc : c < m) :
    0 ≤ nth (bump s k P (c + 1)) c ∧ nth (bump s k P (c + 1)) c ≤ (m : Int) - 1 := by
  have hl := h.low c hc
  rw [nth_bump (by rw [h.len]; exact hc)]
  obtain ⟨i, hi, hx⟩ := List.mem_iff_getElem.1 ((hp.mem (c : Int)).2 (by omega))
  have hx2 : xs[i]? = some (c : Int) := by rw [List.getElem?_eq_getElem hi, hx]
  have ht := h.top i c hx2
  by_cases hh : c < c + 1 ∧ hit s k c = true
  · rw [if_pos hh]
    have h1 : 0 < i := by
      rcases Nat.eq_zero_or_pos i with e | e
      · subst e
        rw [he] at hx2
        have hh2 := hh.2
        rw [hit, Bool.and_eq_true, decide_eq_true_eq] at hh2
        cases pre with
        | nil => simp at hx2; exact absurd hx2.symm hh2.1
        | cons y t =>
          simp at hx2
          have := hpre y (by simp)
          rw [hx2, hh2.2] at this
          exact absurd this (by simp)
      · exact e
    omega
  · rw [if_neg hh]; omega
theorem FairI.step {m s : Nat} {xs P pre post : List Int} {k : Int} (h : FairI m xs P) (hp : Perm m xs) (he : xs = pre ++ k :: post) (hpre : ∀ x ∈ pre, has s x = false) (q : Nat) (hq : k = (q : Int)) (hqm : q < m) :
    FairI m (tookX xs k) ((bump s k P m).set q 0) := by
  have hnd := hp.nd
  have hlen := hp.len
  have hkpre : k ∉ pre := by
    intro hk
    rw [he, List.nodup_append] at hnd
    exact hnd.2.2 k hk k (by simp) rfl
  have ht : tookX xs k = pre ++ post ++ [k] := by
    rw [tookX, if_pos (by rw [he]; simp), he, List.erase_append_right _ hkpre, List.erase_cons_head]
  have hbl : q < (bump s k P m).length := by rw [bump_len, h.len]; exact hqm
  refine ⟨by rw [List.length_set, bump_len, h.len], fun c hc => ?_, fun i c hi => ?_⟩
  · rw [nth_set _ hbl]
    by_cases e : c = q
    · rw [if_pos e]; omega
    · rw [if_neg e, nth_bump (by rw [h.len]; exact hc)]
      have := h.low c hc
      split <;> omega
  · rw [ht] at hi
    have hil := (List.getElem?_eq_some_iff.1 hi).1
    have hll : pre.length + post.length + 1 = m := by rw [← hlen, he]; simp; omega
    simp only [List.length_append, List.length_cons, List.length_nil] at hil
    rw [nth_set _ hbl]
    by_cases e : c = q
    · rw [if_pos e]; omega
    · rw [if_neg e]
      have hck : (c : Int) ≠ k := by rw [hq]; omega
      by_cases h1 : i < pre.length
      · rw [List.append_assoc, List.getElem?_append_left h1] at hi
        have hx : xs[i]? = some (c : Int) := by rw [he, List.getElem?_append_left h1]; exact hi
        have hc := (hp.mem (c : Int)).1 (List.mem_of_getElem? hx)
        have hmiss : hit s k c = false := by rw [hit, hpre _ (List.mem_of_getElem? hi)]; simp
        rw [nth_bump (by rw [h.len]; omega), if_neg (by rw [hmiss]; simp)]
        have := h.top i c hx
        omega
      · rw [List.append_assoc, List.getElem?_append_right (by omega)] at hi
        by_cases h2 : i - pre.length < post.length
        · rw [List.getElem?_append_left h2] at hi
          have hx : xs[i + 1]? = some (c : Int) := by
            rw [he, List.getElem?_append_right (by omega), show i + 1 - pre.length = (i - pre.length) + 1 by omega, List.getElem?_cons_succ]; exact hi
          have hc := (hp.mem (c : Int)).1 (List.mem_of_getElem? hx)
          have := h.top (i + 1) c hx
          rw [nth_bump (by rw [h.len]; omega)]
          split <;> omega
        · rw [List.getElem?_append_right (by omega), show i - pre.length - post.length = 0 by omega] at hi
          simp at hi
          exact absurd hi.symm hck

/-! ### The bit, shifted down -/
theorem shr_one {s k : Nat} (h : has s (k : Int) = true) : ((s : Int) / 2 ^ k).tmod 2 = 1 := by
  have h64 : k < 64 := by rw [has, Bool.and_eq_true, decide_eq_true_eq] at h; omega
  rw [has_div (by omega) (by omega), decide_eq_true_eq, Int.toNat_natCast] at h
  have e : ((s : Int) / 2 ^ k) = ((s / 2 ^ k : Nat) : Int) := by simp
  rw [e, Int.tmod_eq_emod_of_nonneg (Int.natCast_nonneg _)]
  generalize s / 2 ^ k = z at h ⊢
  omega
theorem shr_zero {s k : Nat} (h64 : k < 64) (h : has s (k : Int) = false) : ((s : Int) / 2 ^ k).tmod 2 = 0 := by
  rw [has_div (by omega) (by omega), decide_eq_false_iff_not, Int.toNat_natCast] at h
  have e : ((s : Int) / 2 ^ k) = ((s / 2 ^ k : Nat) : Int) := by simp
  rw [e, Int.tmod_eq_emod_of_nonneg (Int.natCast_nonneg _)]
  generalize s / 2 ^ k = z at h ⊢
  omega
end Go.Proofs.Ytmfjklfjbcjeiaa
