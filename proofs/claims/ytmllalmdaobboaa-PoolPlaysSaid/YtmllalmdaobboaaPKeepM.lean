/-
  What the law PoolKeeps holds in memory at the head of a round.
-/
import Derived.Test.YtmllalmdaobboaaPFull
namespace Go.Proofs.Ytmllalmdaobboaa
open Go.RowKit

theorem infoSud : (Try.prog.info? 32).map (fun i => (i.zero, i.size, i.bytes)) = some (some (.agg #[.int .i64 0, .int .i64 0, .bool false, .int .i64 0, .int .u64 0]), 5, 40) := by kernel_rfl
abbrev Suds (W : World) (G cap : Nat) (l : List Sud) : Prop := RowOf sudV 5 32 W G cap l
theorem suds_made {W : World} {G base n : Nat} (h : W.ownsRow base 32 5 (.slice (some ⟨G, 0, none⟩) n n) n (madeCells (Value.agg #[.int .i64 0, .int .i64 0, .bool false, .int .i64 0, .int .u64 0]).cells (n * 5)).toList) : Suds W G n (List.replicate n zeroS) := by
  have e : (madeCells (Value.agg #[.int .i64 0, .int .i64 0, .bool false, .int .i64 0, .int .u64 0]).cells (n * 5)).toList = _ := made_flat sudV zeroS _ 5 rfl (by omega) (fun _ => rfl) n
  rw [e] at h
  exact RowOf.of_owns (f := sudV) (n := 5) (l := List.replicate n zeroS) (fun _ => rfl) (by rw [List.length_replicate]; exact h) (by rw [List.length_replicate])
theorem sud5 {W : World} {V o : Nat} (a b : Int) (c : Bool) (d e : Int) :
    (((((W.setCell ⟨V, o, none⟩ (.int .i64 a)).setCell ⟨V, o + 1, none⟩ (.int .i64 b)).setCell ⟨V, o + 2, none⟩ (.bool c)).setCell ⟨V, o + 3, none⟩ (.int .i64 d)).setCell ⟨V, o + 4, none⟩ (.int .u64 e)) = Go.Proofs.Ytmllalmdaobboaa.putAll W V o (sudV (a, b, c, d, e)) := by
  simp only [sudV, Go.Proofs.Ytmllalmdaobboaa.putAll, Nat.add_assoc, Nat.reduceAdd]

/-- Which of the first 40 are taken. -/
def marks40 (T : List (Option Sud)) : List Bool := (List.range 40).map (tk T)
theorem marks40_len (T : List (Option Sud)) : (marks40 T).length = 40 := by simp [marks40]
theorem marks40_get (T : List (Option Sud)) {i : Nat} (h : i < 40) : (marks40 T)[i]? = some (tk T i) := by simp [marks40, List.getElem?_range h]
theorem marks40_set {T : List (Option Sud)} {i : Nat} (hi : i < T.length) (o : Option Sud) (h40 : i < 40) : marks40 (T.set i o) = (marks40 T).set i o.isSome := by
  refine List.ext_getElem? fun k => ?_
  by_cases hk : k < 40
  · rw [marks40_get _ hk, tk_set hi]
    by_cases e : k = i
    · subst e; rw [if_pos rfl, List.getElem?_set_self (by rw [marks40_len]; exact hk)]
    · rw [if_neg e, List.getElem?_set_ne (Ne.symm e), marks40_get _ hk]
  · rw [List.getElem?_eq_none (by rw [marks40_len]; omega), List.getElem?_eq_none (by rw [List.length_set, marks40_len]; omega)]
theorem marks40_none (n : Nat) : marks40 (List.replicate n none) = List.replicate 40 false := by
  refine List.ext_getElem? fun k => ?_
  by_cases hk : k < 40
  · rw [marks40_get _ hk, List.getElem?_replicate, if_pos hk, tk, List.getElem?_replicate]
    split <;> rfl
  · rw [List.getElem?_eq_none (by rw [marks40_len]; omega), List.getElem?_eq_none (by simp; omega)]
theorem tk_some {T : List (Option Sud)} {i : Nat} {o : Option Sud} (h : T[i]? = some o) : tk T i = o.isSome := by rw [tk, h]; rfl
theorem tk_get {T : List (Option Sud)} {i : Nat} (h : tk T i = true) : ∃ x, T[i]? = some (some x) := by
  unfold tk at h
  cases hT : T[i]? with
  | none => rw [hT] at h; cases h
  | some o =>
    cases o with
    | none => rw [hT] at h; cases h
    | some x => exact ⟨x, rfl⟩
theorem held_tk (T : List (Option Sud)) (i : Nat) : (heldAt T (i : Int)).isSome = tk T i := by
  unfold heldAt tk; rw [if_pos (by omega), Int.toNat_natCast]
theorem cntTo_beyond (T : List (Option Sud)) (k : Nat) : cntTo T (T.length + k) = cntTo T T.length := by
  induction k with
  | zero => rfl
  | succ k ih =>
    rw [← Nat.add_assoc, cntTo, ih, tk, List.getElem?_eq_none (by omega)]; rfl
theorem cntTo_hit {T : List (Option Sud)} {k : Nat} (h : tk T k = true) : cntTo T (k + 1) = cntTo T k + 1 := by rw [cntTo, h]; rfl
theorem cntTo_miss {T : List (Option Sud)} {k : Nat} (h : tk T k = false) : cntTo T (k + 1) = cntTo T k := by rw [cntTo, h]; rfl

/-- The pool and what the law knows of it. -/
structure Kept (w0 W : World) (B V cap G I m : Nat) (T : List (Option Sud)) (F : List Nat) (H : List Sud) : Prop where
  mine : Mine w0 W B V cap T F
  has : Suds W G 40 H
  is : Bools W I 40 (marks40 T)
  ownG : w0.heap.size ≤ G
  ownI : w0.heap.size ≤ I
  hl : H.length = 40
  tl : T.length = m
  m40 : m ≤ 40
  rel : ∀ (k : Nat) (x : Sud), T[k]? = some (some x) → H[k]? = some x

section
variable {w0 W W1 : World} {B V cap G I m : Nat} {T : List (Option Sud)} {F : List Nat} {H : List Sud}
theorem Kept.fresh (h : Kept w0 W B V cap G I m T F H) (hb : But [] W W1) : Kept w0 W1 B V cap G I m T F H :=
  ⟨h.mine.fresh hb, h.has.but hb (by simp), h.is.but hb (by simp), h.ownG, h.ownI, h.hl, h.tl, h.m40, h.rel⟩
theorem Kept.drewN (h : Kept w0 W B V cap G I m T F H) (k : Nat) : Kept w0 (W.drewN k) B V cap G I m T F H := h.fresh ((But.refl [] W).drewN k)
theorem Kept.drew (h : Kept w0 W B V cap G I m T F H) : Kept w0 W.drew B V cap G I m T F H := h.fresh ((But.refl [] W).drew)
theorem Kept.apart (h : Kept w0 W B V cap G I m T F H) : G ≠ B ∧ G ≠ V ∧ I ≠ B ∧ I ≠ V ∧ G ≠ I := by
  obtain ⟨_, _, b1⟩ := h.mine.pool.blockB
  obtain ⟨_, _, b2⟩ := h.mine.pool.blockV
  obtain ⟨_, _, b3⟩ := h.has.block
  obtain ⟨_, _, b4⟩ := h.is.block
  exact ⟨type_ne b3 b1 (by decide), type_ne b3 b2 (by decide), type_ne b4 b1 (by decide), type_ne b4 b2 (by decide), type_ne b3 b4 (by decide)⟩
theorem Kept.ltG (h : Kept w0 W B V cap G I m T F H) : G < W.heap.size := h.has.lt
theorem Kept.ltI (h : Kept w0 W B V cap G I m T F H) : I < W.heap.size := h.is.lt
/-- Behind Take: the rows as they were. -/
theorem Kept.took {k : Nat} (h : Kept w0 W B V cap G I m T (k :: F) H) (a b : Int) (c : Bool) (d e : Int) (h1 : Mine w0 W1 B V cap (T.set k (some (a, b, c, d, e))) F) (hb : But [B, V] W W1) :
    Kept w0 ((((((W1.setCell ⟨I, k, none⟩ (.bool true)).setCell ⟨G, k * 5, none⟩ (.int .i64 a)).setCell ⟨G, k * 5 + 1, none⟩ (.int .i64 b)).setCell ⟨G, k * 5 + 2, none⟩ (.bool c)).setCell ⟨G, k * 5 + 3, none⟩ (.int .i64 d)).setCell ⟨G, k * 5 + 4, none⟩ (.int .u64 e)) B V cap G I m (T.set k (some (a, b, c, d, e))) F (H.set k (a, b, c, d, e)) := by
  obtain ⟨g1, g2, i1, i2, gi⟩ := h.apart
  have hk : k < T.length := h.mine.pool.lt k (by simp)
  have hkm := h.tl
  have hm := h.m40
  rw [sud5]
  have r1 := h.is.but hb (by simp [i1, i2])
  have r2 := h.has.but hb (by simp [g1, g2])
  have hS : But [I, G] W1 (Go.Proofs.Ytmllalmdaobboaa.putAll (W1.setCell ⟨I, k, none⟩ (.bool true)) G (k * 5) (sudV (a, b, c, d, e))) := But.putAll (V := G) (.inl (by simp)) _ _ _ ((But.refl [I, G] W1).set (p := ⟨I, k, none⟩) (.inl (by simp)) _)
  refine ⟨h1.beside hS (by simp [i1.symm, g1.symm]) (by simp [i2.symm, g2.symm]) (by simp [h.ownG, h.ownI]), ?_, ?_, h.ownG, h.ownI, by rw [List.length_set]; exact h.hl, by rw [List.length_set]; exact h.tl, h.m40, ?_⟩
  · exact (r2.of_block (Below.heap_setCell W1 _ _ G gi)).setAll (y := (a, b, c, d, e)) (by rw [h.hl]; omega) rfl
  · rw [marks40_set hk _ (by omega)]
    exact (Bools.set r1 (by rw [marks40_len]; omega) true).of_block (putAll_other gi.symm _ _ _)
  · intro j x hj
    by_cases e : j = k
    · subst e
      rw [List.getElem?_set_self hk] at hj
      cases hj
      rw [List.getElem?_set_self (by rw [h.hl]; omega)]
    · rw [List.getElem?_set_ne (Ne.symm e)] at hj ⊢
      exact h.rel j x hj
theorem Kept.gave {k : Nat} (h : Kept w0 W B V cap G I m T F H) (hk : k < T.length) (h1 : Mine w0 W1 B V cap (T.set k none) (k :: F)) (hb : But [B, V] W W1) :
    Kept w0 (W1.setCell ⟨I, k, none⟩ (.bool false)) B V cap G I m (T.set k none) (k :: F) H := by
  obtain ⟨g1, g2, i1, i2, gi⟩ := h.apart
  have hkm := h.tl
  have hm := h.m40
  have r1 := h.is.but hb (by simp [i1, i2])
  have r2 := h.has.but hb (by simp [g1, g2])
  have hS : But [I] W1 (W1.setCell ⟨I, k, none⟩ (.bool false)) := (But.refl [I] W1).set (p := ⟨I, k, none⟩) (.inl (by simp)) _
  refine ⟨h1.beside hS (by simp [i1.symm]) (by simp [i2.symm]) (by simp [h.ownI]), r2.but hS (by simp [gi]), ?_, h.ownG, h.ownI, h.hl, by rw [List.length_set]; exact h.tl, h.m40, ?_⟩
  · rw [marks40_set hk _ (by omega)]
    exact Bools.set r1 (by rw [marks40_len]; omega) false
  · intro j x hj
    by_cases e : j = k
    · subst e; rw [List.getElem?_set_self hk] at hj; cases hj
    · rw [List.getElem?_set_ne (Ne.symm e)] at hj
      exact h.rel j x hj
end
/-- What was given back last, if nothing was taken since: it is the first one that is free. -/
def LastOk (z : Int) (F : List Nat) : Prop := z = -1 ∨ ∃ (k : Nat) (F' : List Nat), z = (k : Int) ∧ F = k :: F'

/-- One step in memory. -/
structure StepAt (w : World) (b o : Nat) (s : Int × Int × Sud) : Prop where
  d : w.cell? ⟨b, o, none⟩ = some (.int .i64 s.1)
  i : w.cell? ⟨b, o + 1, none⟩ = some (.int .i64 s.2.1)
  x0 : w.cell? ⟨b, o + 2, none⟩ = some (.int .i64 s.2.2.1)
  x1 : w.cell? ⟨b, o + 3, none⟩ = some (.int .i64 s.2.2.2.1)
  x2 : w.cell? ⟨b, o + 4, none⟩ = some (.bool s.2.2.2.2.1)
  x3 : w.cell? ⟨b, o + 5, none⟩ = some (.int .i64 s.2.2.2.2.2.1)
  x4 : w.cell? ⟨b, o + 6, none⟩ = some (.int .u64 s.2.2.2.2.2.2)
  i1 : -9223372036854775808 ≤ s.2.1
  i2 : s.2.1 ≤ 9223372036854775807
def zeroStep : Int × Int × Sud := (0, 0, zeroS)
/-- The slice value v reads as these steps. -/
def Steps (w : World) (v : Value) (ss : List (Int × Int × Sud)) : Prop :=
  (ss = [] ∧ ∃ a cap, v = .slice a 0 cap) ∨
  (∃ b off cap, v = .slice (some ⟨b, off, none⟩) ss.length cap ∧ 0 < ss.length ∧ b < w.heap.size ∧ ∀ j, j < ss.length → StepAt w b (off + j * 7) (ss[j]?.getD zeroStep))
theorem cell7 {W : World} {D : Nat} {a b c d e f g : Value} {t : TypeId} (h : W.heap[D]? = some (.cells #[a, b, c, d, e, f, g] t (0, 0))) : W.cell? ⟨D, 0, none⟩ = some a ∧ W.cell? ⟨D, 1, none⟩ = some b ∧ W.cell? ⟨D, 2, none⟩ = some c ∧ W.cell? ⟨D, 3, none⟩ = some d ∧ W.cell? ⟨D, 4, none⟩ = some e ∧ W.cell? ⟨D, 5, none⟩ = some f ∧ W.cell? ⟨D, 6, none⟩ = some g := by
  simp [World.cell?, h]
/-- A cell of a block of its own outlasts what turns others. -/
theorem But.keeps {w w' : World} {S : List Nat} (h : But S w w') {D o : Nat} {v : Value} (hv : w.cell? ⟨D, o, none⟩ = some v) (hD : ∀ x ∈ S, x ≠ D) : w'.cell? ⟨D, o, none⟩ = some v := h.cell hv (fun e => hD _ e rfl)
end Go.Proofs.Ytmllalmdaobboaa
