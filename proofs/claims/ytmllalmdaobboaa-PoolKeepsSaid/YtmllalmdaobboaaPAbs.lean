/-
  A pool as which slots have what, and which are free, in order: what Take, Give, Of, Len, Free do to it.
-/
import Derived.Test.YtmllalmdaobboaaPTake
namespace Go.Proofs.Ytmllalmdaobboaa
open Go.RowKit

/-- The free list from f on. -/
def Chain (l : List Slo) : Nat → List Nat → Prop
  | f, [] => f = l.length
  | f, i :: t => f = i ∧ ∃ k, l[i]? = some (none, k) ∧ Chain l k t

/-- Is slot k taken? -/
def tk (T : List (Option Sud)) (k : Nat) : Bool := (T[k]?.join).isSome
/-- How many of the first k are taken; which. -/
def cntTo (T : List (Option Sud)) : Nat → Nat
  | 0 => 0
  | k + 1 => cntTo T k + if tk T k then 1 else 0
def idxTo (T : List (Option Sud)) : Nat → List Nat
  | 0 => []
  | k + 1 => idxTo T k ++ if tk T k then [k] else []
def idx (T : List (Option Sud)) : List Nat := idxTo T T.length
theorem idxTo_len (T : List (Option Sud)) (k : Nat) : (idxTo T k).length = cntTo T k := by
  induction k with
  | zero => rfl
  | succ k ih => rw [idxTo, cntTo, List.length_append, ih]; split <;> rfl
theorem idx_len (T : List (Option Sud)) : (idx T).length = cntTo T T.length := idxTo_len _ _
theorem idxTo_lt (T : List (Option Sud)) (k : Nat) : ∀ i ∈ idxTo T k, i < k := by
  induction k with
  | zero => intro i h; cases h
  | succ k ih =>
    intro i h
    rw [idxTo] at h
    rcases List.mem_append.1 h with h | h
    · exact Nat.lt_succ_of_lt (ih i h)
    · split at h
      · rw [List.mem_singleton.1 h]; exact Nat.lt_succ_self k
      · cases h
theorem idxTo_pre (T : List (Option Sud)) {j k : Nat} (h : j ≤ k) : idxTo T j <+: idxTo T k := by
  induction k with
  | zero => obtain rfl : j = 0 := by omega
            exact List.prefix_rfl
  | succ k ih =>
    by_cases e : j = k + 1
    · rw [e]; exact List.prefix_rfl
    · exact (ih (by omega)).trans ⟨_, rfl⟩
theorem cntTo_le (T : List (Option Sud)) (k : Nat) : cntTo T k ≤ k := by
  induction k with
  | zero => exact Nat.le_refl _
  | succ k ih => rw [cntTo]; split <;> omega
theorem tk_set {T : List (Option Sud)} {i : Nat} (hi : i < T.length) (v : Option Sud) (k : Nat) : tk (T.set i v) k = if k = i then v.isSome else tk T k := by
  unfold tk
  by_cases e : k = i
  · subst e; rw [if_pos rfl, List.getElem?_set_self hi]; rfl
  · rw [if_neg e, List.getElem?_set_ne (Ne.symm e)]
theorem cntTo_up {T : List (Option Sud)} {i : Nat} (hi : T[i]? = some none) (x : Sud) (k : Nat) : cntTo (T.set i (some x)) k = cntTo T k + if i < k then 1 else 0 := by
  have hlt : i < T.length := (List.getElem?_eq_some_iff.1 hi).1
  have h0 : tk T i = false := by rw [tk, hi]; rfl
  induction k with
  | zero => rfl
  | succ k ih =>
    rw [cntTo, cntTo, ih, tk_set hlt]
    by_cases e : k = i
    · subst e; rw [if_pos rfl, h0, if_neg (Nat.lt_irrefl _), if_pos (Nat.lt_succ_self _)]; rfl
    · rw [if_neg e]
      by_cases e2 : i < k
      · rw [if_pos e2, if_pos (show i < k + 1 by omega)]; omega
      · rw [if_neg e2, if_neg (show ¬ i < k + 1 by omega)]; omega
theorem cntTo_dn {T : List (Option Sud)} {i : Nat} {x : Sud} (hi : T[i]? = some (some x)) (k : Nat) : cntTo (T.set i none) k + (if i < k then 1 else 0) = cntTo T k := by
  have hlt : i < T.length := (List.getElem?_eq_some_iff.1 hi).1
  have h0 : tk T i = true := by rw [tk, hi]; rfl
  induction k with
  | zero => rfl
  | succ k ih =>
    rw [cntTo, cntTo, ← ih, tk_set hlt]
    by_cases e : k = i
    · subst e; rw [if_pos rfl, h0, if_neg (Nat.lt_irrefl _), if_pos (Nat.lt_succ_self _)]; rfl
    · rw [if_neg e]
      by_cases e2 : i < k
      · rw [if_pos e2, if_pos (show i < k + 1 by omega)]; omega
      · rw [if_neg e2, if_neg (show ¬ i < k + 1 by omega)]; omega

/-- What slot i has, if it is there, and taken. -/
def heldAt (T : List (Option Sud)) (i : Int) : Option Sud := if 0 ≤ i then T[i.toNat]?.join else none

/-- Block B is a pool, in which the slots have T, and F are free, in order. -/
structure PoolAt (W : World) (B V cap : Nat) (T : List (Option Sud)) (F : List Nat) : Prop where
  raw : ∃ l f, Pol W B V cap l f (cntTo T T.length) ∧ l.map (·.1) = T ∧ Chain l f F
  nodup : F.Nodup
  all : ∀ i : Nat, T[i]? = some none → i ∈ F
  some : ∀ i ∈ F, T[i]? = some none
  sum : cntTo T T.length + F.length = T.length
  len : T.length ≤ 1024
theorem map_get {l : List Slo} {T : List (Option Sud)} (h : l.map (·.1) = T) (i : Nat) : T[i]? = (l[i]?).map (·.1) := by rw [← h, List.getElem?_map]
theorem map_len {l : List Slo} {T : List (Option Sud)} (h : l.map (·.1) = T) : l.length = T.length := by rw [← h, List.length_map]
theorem get_map {l : List Slo} {T : List (Option Sud)} (h : l.map (·.1) = T) {i : Nat} {o : Option Sud} (hi : T[i]? = some o) : ∃ k, l[i]? = some (o, k) := by
  rw [map_get h] at hi
  obtain ⟨⟨o', k⟩, h1, rfl⟩ := Option.map_eq_some_iff.1 hi
  exact ⟨k, h1⟩
theorem Chain.set {l : List Slo} {i : Nat} {s : Slo} : ∀ {F : List Nat} {f : Nat}, i ∉ F → Chain l f F → Chain (l.set i s) f F := by
  intro F
  induction F with
  | nil => intro f _ h; exact h.trans (by rw [List.length_set])
  | cons j t ih =>
    rintro f hn ⟨rfl, k, h1, h2⟩
    simp only [List.mem_cons, not_or] at hn
    exact ⟨rfl, k, by rw [List.getElem?_set_ne hn.1]; exact h1, ih hn.2 h2⟩
theorem Chain.le {l : List Slo} {F : List Nat} {f : Nat} (h : Chain l f F) : f ≤ l.length := by
  cases F with
  | nil => exact Nat.le_of_eq h
  | cons j t => obtain ⟨rfl, k, h1, _⟩ := h; exact Nat.le_of_lt (List.getElem?_eq_some_iff.1 h1).1

section
variable {W W' : World} {B V cap : Nat} {T : List (Option Sud)} {F : List Nat}
theorem PoolAt.but (h : PoolAt W B V cap T F) {S : List Nat} (hb : But S W W') (h1 : B ∉ S) (h2 : V ∉ S) : PoolAt W' B V cap T F := by
  obtain ⟨l, f, h3, r⟩ := h.raw
  exact ⟨⟨l, f, h3.but hb h1 h2, r⟩, h.nodup, h.all, h.some, h.sum, h.len⟩
theorem PoolAt.drewN (h : PoolAt W B V cap T F) (k : Nat) : PoolAt (W.drewN k) B V cap T F := by
  obtain ⟨l, f, h3, r⟩ := h.raw
  exact ⟨⟨l, f, h3.drewN k, r⟩, h.nodup, h.all, h.some, h.sum, h.len⟩
theorem PoolAt.drew (h : PoolAt W B V cap T F) : PoolAt W.drew B V cap T F := h.drewN 1
theorem PoolAt.ltB (h : PoolAt W B V cap T F) : B < W.heap.size := by obtain ⟨l, f, h3, _⟩ := h.raw; exact h3.ltB
theorem PoolAt.ltV (h : PoolAt W B V cap T F) : V < W.heap.size := by obtain ⟨l, f, h3, _⟩ := h.raw; exact h3.ltV
theorem PoolAt.blockB (h : PoolAt W B V cap T F) : ∃ cs z, W.heap[B]? = Option.some (.cells cs 52 z) := by obtain ⟨l, f, h3, _⟩ := h.raw; exact ⟨_, _, h3.head⟩
theorem PoolAt.blockV (h : PoolAt W B V cap T F) : ∃ cs z, W.heap[V]? = Option.some (.cells cs 54 z) := by obtain ⟨l, f, h3, _⟩ := h.raw; exact h3.row.block
theorem PoolAt.lt (h : PoolAt W B V cap T F) : ∀ i ∈ F, i < T.length := fun i hi => (List.getElem?_eq_some_iff.1 (h.some i hi)).1
end

theorem pt_len {B V cap : Nat} {T : List (Option Sud)} {F : List Nat} (w : World) (h : PoolAt w B V cap T F) :
    Calls Try.prog 18 #[.pointer (some ⟨B, 0, none⟩)] w fun e w' => e = .returned (.int .i64 (cntTo T T.length : Int)) ∧ w' = w := by
  obtain ⟨l, f, h3, _⟩ := h.raw
  exact plen_any w h3
theorem pt_free {B V cap : Nat} {T : List (Option Sud)} {F : List Nat} (w : World) (h : PoolAt w B V cap T F) :
    Calls Try.prog 19 #[.pointer (some ⟨B, 0, none⟩)] w fun e w' => e = .returned (.int .i64 (F.length : Int)) ∧ ∃ m, w' = w.drewN m := by
  obtain ⟨l, f, h3, h4, _⟩ := h.raw
  have hs := h.sum
  have := free_any w h3
  rwa [show (l.length : Int) - (cntTo T T.length : Int) = (F.length : Int) by rw [map_len h4]; omega] at this

theorem pt_take_full {B V cap : Nat} {T : List (Option Sud)} (x : Sud) (w : World) (h : PoolAt w B V cap T []) :
    Calls Try.prog 10 #[.pointer (some ⟨B, 0, none⟩), sudA x] w fun e w' => e = .returned (.tuple #[.int .i64 0, .int .i64 4]) ∧ But [] w w' := by
  obtain ⟨l, f, h3, h4, h5⟩ := h.raw
  exact take_full x w h3 h5
theorem pt_take {B V cap : Nat} {T : List (Option Sud)} {i : Nat} {F : List Nat} (x : Sud) (w : World) (h : PoolAt w B V cap T (i :: F)) :
    Calls Try.prog 10 #[.pointer (some ⟨B, 0, none⟩), sudA x] w fun e w' => e = .returned (.tuple #[.int .i64 (i : Int), .int .i64 0]) ∧ PoolAt w' B V cap (T.set i (some x)) F ∧ But [B, V] w w' := by
  obtain ⟨l, f, h3, h4, rfl, k, h5, h6⟩ := h.raw
  have hs := h.sum
  have hi := h.some f (by simp)
  have hlt : f < T.length := (List.getElem?_eq_some_iff.1 hi).1
  have hnd := List.nodup_cons.1 h.nodup
  have hup := cntTo_up hi x T.length
  rw [if_pos hlt] at hup
  refine (take_some x w h3 h5 h6.le (by rw [map_len h4]; simp at hs; omega)).mono ?_
  rintro e w' ⟨rfl, h7, h8⟩
  refine ⟨rfl, ⟨⟨_, _, by rw [List.length_set, hup]; exact h7, by rw [List.map_set, h4], h6.set hnd.1⟩, hnd.2, fun j hj => ?_, fun j hj => ?_, by rw [List.length_set, hup]; simp at hs; omega, by rw [List.length_set]; exact h.len⟩, h8⟩
  · by_cases e : j = f
    · subst e; rw [List.getElem?_set_self hlt] at hj; cases hj
    · rw [List.getElem?_set_ne (Ne.symm e)] at hj
      have := h.all j hj
      simpa [e] using this
  · have e : j ≠ f := fun e => hnd.1 (e ▸ hj)
    rw [List.getElem?_set_ne (Ne.symm e)]
    exact h.some j (by simp [hj])

theorem held_nat {T : List (Option Sud)} {i : Int} {x : Sud} (h : heldAt T i = some x) : ∃ k : Nat, i = (k : Int) ∧ T[k]? = some (some x) := by
  unfold heldAt at h
  split at h
  · rename_i h0
    obtain ⟨k, rfl⟩ := Int.eq_ofNat_of_zero_le h0
    refine ⟨k, rfl, ?_⟩
    rw [Int.toNat_natCast] at h
    cases hk : T[k]? with
    | none => rw [hk] at h; cases h
    | some o => rw [hk] at h; rw [show o = some x from h]
  · cases h
theorem held_of {T : List (Option Sud)} {k : Nat} {x : Sud} (h : T[k]? = some (some x)) : heldAt T (k : Int) = some x := by
  unfold heldAt; rw [if_pos (by omega), Int.toNat_natCast, h]; rfl
theorem held_free {T : List (Option Sud)} {k : Nat} (h : T[k]? = some none) : heldAt T (k : Int) = none := by
  unfold heldAt; rw [if_pos (by omega), Int.toNat_natCast, h]; rfl
theorem pt_has_not {B V cap : Nat} {T : List (Option Sud)} {F : List Nat} {i : Int} (w : World) (h : PoolAt w B V cap T F) (hi : heldAt T i = none) :
    Calls Try.prog 23 #[.pointer (some ⟨B, 0, none⟩), .int .i64 i] w fun e w' => e = .returned (.bool false) ∧ w' = w := by
  obtain ⟨l, f, h3, h4, _⟩ := h.raw
  by_cases h0 : i < 0 ∨ (l.length : Int) ≤ i
  · exact has_out i w h3 h0
  · obtain ⟨k, rfl⟩ := Int.eq_ofNat_of_zero_le (show 0 ≤ i by omega)
    have hk : k < T.length := by rw [← map_len h4]; omega
    cases hT : T[k]? with
    | none => rw [List.getElem?_eq_none_iff] at hT; omega
    | some o =>
      cases o with
      | some x => rw [held_of hT] at hi; cases hi
      | none =>
        obtain ⟨k', h5⟩ := get_map h4 hT
        exact has_there k _ w h3 h5

theorem pt_give_not {B V cap : Nat} {T : List (Option Sud)} {F : List Nat} {i : Int} (w : World) (h : PoolAt w B V cap T F) (hi : heldAt T i = none) :
    Calls Try.prog 12 #[.pointer (some ⟨B, 0, none⟩), .int .i64 i] w fun e w' => e = .returned (.int .i64 3) ∧ w' = w :=
  give_not i w (pt_has_not w h hi)
theorem pt_give {B V cap : Nat} {T : List (Option Sud)} {F : List Nat} {i : Nat} {x : Sud} (w : World) (h : PoolAt w B V cap T F) (hi : T[i]? = some (some x)) :
    Calls Try.prog 12 #[.pointer (some ⟨B, 0, none⟩), .int .i64 (i : Int)] w fun e w' => e = .returned (.int .i64 0) ∧ PoolAt w' B V cap (T.set i none) (i :: F) ∧ But [B, V] w w' := by
  obtain ⟨l, f, h3, h4, h6⟩ := h.raw
  have hs := h.sum
  have hlt : i < T.length := (List.getElem?_eq_some_iff.1 hi).1
  obtain ⟨k, h5⟩ := get_map h4 hi
  have hn : i ∉ F := fun e => by rw [h.some i e] at hi; cases hi
  have hdn := cntTo_dn hi T.length
  rw [if_pos hlt] at hdn
  refine (give_there x w h3 h5 (by omega)).mono ?_
  rintro e w' ⟨rfl, h7, h8⟩
  refine ⟨rfl, ⟨⟨_, _, ?_, by rw [List.map_set, h4], rfl, f, List.getElem?_set_self (by rw [map_len h4]; exact hlt), h6.set hn⟩, List.nodup_cons.2 ⟨hn, h.nodup⟩, fun j hj => ?_, fun j hj => ?_, by rw [List.length_set, List.length_cons]; omega, by rw [List.length_set]; exact h.len⟩, h8⟩
  · rw [List.length_set, show cntTo (T.set i none) T.length = cntTo T T.length - 1 by omega]; exact h7
  · by_cases e : j = i
    · subst e; simp
    · rw [List.getElem?_set_ne (Ne.symm e)] at hj
      exact List.mem_cons_of_mem _ (h.all j hj)
  · by_cases e : j = i
    · subst e; rw [List.getElem?_set_self hlt]
    · rw [List.getElem?_set_ne (Ne.symm e)]
      exact h.some j (by simpa [e] using hj)

theorem pt_of {B V cap : Nat} {T : List (Option Sud)} {F : List Nat} (i : Int) (w : World) (h : PoolAt w B V cap T F) :
    Calls Try.prog 15 #[.pointer (some ⟨B, 0, none⟩), .int .i64 i] w fun e w' => e = .returned (.tuple #[sudA ((heldAt T i).getD zeroS), .bool (heldAt T i).isSome]) ∧ But [] w w' := by
  cases hh : heldAt T i with
  | some x =>
    obtain ⟨k, rfl, hk⟩ := held_nat hh
    obtain ⟨l, f, h3, h4, _⟩ := h.raw
    obtain ⟨k', h5⟩ := get_map h4 hk
    exact of_there k k' x w h3 h5
  | none =>
    have hb : But [] w (w.alloc (.cells #[.int .i64 0, .int .i64 0, .bool false, .int .i64 0, .int .u64 0] 32)) := (But.refl _ _).alloc _
    exact of_not i w (pt_has_not _ (h.but hb (by simp) (by simp)) hh)
end Go.Proofs.Ytmllalmdaobboaa
