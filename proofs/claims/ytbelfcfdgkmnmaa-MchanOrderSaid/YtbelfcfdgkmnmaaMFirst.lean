/-
  The walk of First.
-/
import Derived.Test.YtbelfcfdgkmnmaaMIter
namespace Go.Proofs.Ytbelfcfdgkmnmaa
open Go.RowKit Go.Shelf

attribute [local go_sem] Oper.semAt_some

theorem wtAt_abides {β : Type} (B : Nat) (f : β → Wt) (m : Nat) : OwnFrom m (fun (s : β) W => WtAt W B (f s)) :=
  Own.from (I := fun (s : β) (W : World) => WtAt W B (f s)) (fun sx A W' row hs hg hr => hs.of_block (hg.block B hs.lt (fun e => by
    obtain ⟨o, ho, hn⟩ := hr B e.symm
    rw [show A.heap[B]? = _ from hs] at ho
    cases ho
    cases hn))) m

/-- What First holds: the one that it found, and whether it did, from block n on. -/
structure Fst (W : World) (n : Nat) (x : Wt) (b : Bool) : Prop where
  it : WtAt W n x
  is : Boxed W (n + 1) 4 (.bool b)
theorem Fst.below {W W' : World} {n : Nat} {x : Wt} {b : Bool} (h : Fst W n x b) (hb : Below W.heap.size W W') : Fst W' n x b := ⟨h.it.below hb, boxed_below h.is hb⟩
def setFst (W : World) (n : Nat) (y : Wt) (c : Bool) : World := (((W.setCell ⟨n, 0, none⟩ (.int .i64 y.t)).setCell ⟨n, 1, none⟩ (.int .i64 y.c)).setCell ⟨n, 2, none⟩ (.int .i64 y.v)).setCell ⟨n + 1, 0, none⟩ (.bool c)
theorem Fst.set {W : World} {n : Nat} {x : Wt} {b : Bool} (h : Fst W n x b) (y : Wt) (c : Bool) : Fst (setFst W n y c) n y c := by
  have h1 := h.it.set y
  have g1 := grownBy_setCell W ⟨n, 0, none⟩ (.int .i64 y.t)
  have g2 := grownBy_setCell (W.setCell ⟨n, 0, none⟩ (.int .i64 y.t)) ⟨n, 1, none⟩ (.int .i64 y.c)
  have g3 := grownBy_setCell ((W.setCell ⟨n, 0, none⟩ (.int .i64 y.t)).setCell ⟨n, 1, none⟩ (.int .i64 y.c)) ⟨n, 2, none⟩ (.int .i64 y.v)
  have h2 := ((h.is.kept g1 (by simp)).kept g2 (by simp)).kept g3 (by simp)
  exact ⟨h1.of_block (Below.heap_setCell _ _ _ _ (by simp)), h2.set _⟩
theorem fst_below {W w0 : World} {m n : Nat} (hb : Below m w0 W) (hm : m ≤ n) (y : Wt) (c : Bool) : Below m w0 (setFst W n y c) :=
  (((hb.setCell (p := ⟨n, 0, none⟩) hm _).setCell (p := ⟨n, 1, none⟩) hm _).setCell (p := ⟨n, 2, none⟩) hm _).setCell (p := ⟨n + 1, 0, none⟩) (by simp; omega) _
theorem fst_others (W : World) (n : Nat) (y : Wt) (c : Bool) : KeepsOthers W (setFst W n y c) :=
  (((KeepsOthers.setCell W ⟨n, 0, none⟩ _).trans (KeepsOthers.setCell _ ⟨n, 1, none⟩ _)).trans (KeepsOthers.setCell _ ⟨n, 2, none⟩ _)).trans (KeepsOthers.setCell _ ⟨n + 1, 0, none⟩ _)
theorem fst_abides {β : Type} (n : Nat) (f : β → Wt) (b : Bool) (m : Nat) : OwnFrom m (fun (s : β) W => Fst W n (f s) b) := fun s W W' row hs hg hr =>
  ⟨wtAt_abides n f m s W W' row hs.it hg hr, boxed_abides (n + 1) 4 (fun _ : β => .bool b) m s W W' row hs.is hg hr⟩

theorem first_end (F0 : Value) (w W : World) (D : Nat) (hD : w.heap.size + 1 ≤ D) (x : Wt) (b : Bool) (t0 t1 t2 t3 t6 t7 t8 t9 t10 t11 t12 t13 : Value)
    (hF : Fst W w.heap.size x b) (hB : Below w.heap.size w W) (hK : W.heap[D]? = some (.deferred (some [])))
    (HE : Hid (Value.tuple #[x.val, .bool b] = F0)) :
    bodyPostM Fence.wide 4 Try.prog Try.f18 (fun e w' => e = .returned F0 ∧ Below w.heap.size w w') .ret
      { tmps := #[t0, t1, t2, t3, .pointer (some ⟨w.heap.size, 0, none⟩), .pointer (some ⟨w.heap.size + 1, 0, none⟩), t6, t7, t8, t9, t10, t11, t12, t13], defers := [{ target := Target.collected D, args := #[] }] } W := by
  refine ⟨by simp, .inl ⟨_, _, rfl, run_takeDeferred hK, ?_⟩⟩
  have hg := grownBy_putObj' W D (.deferred none)
  have hr : ∀ r, some D = some r → ∃ o, W.heap[r]? = some o ∧ o.isCells = false := fun r e => by cases e; exact ⟨_, hK, rfl⟩
  have a1 := cell_kept hF.is.cell hg hr
  have c0 := cell_kept hF.it.c0 hg hr
  have c1 := cell_kept hF.it.c1 hg hr
  have c2 := cell_kept hF.it.c2 hg hr
  refine ⟨.tuple #[x.val, .bool b], ?_, by rw [HE.out], hB.trans (belowK_b (w := w) (Nat.le_refl _) _ D _ _ (by omega) hK rfl rfl)⟩
  unfold Wt.val
  simp [results, Try.f18, go_sem, a1, c0, c1, c2]

def headW (xs : List Wt) : Wt := xs.head?.getD .zero

set_option maxRecDepth 100000 in
set_option maxHeartbeats 1000000 in
theorem first_any {C : Nat} {s : Bool} {v : Value} {xs : List Wt} (w : World) (hcell : w.cell? ⟨C, 2 + ix s, none⟩ = some v) (hrow : w.ownsRow 0 31 3 v xs.length (flatW xs)) (hl : xs.length ≤ 1000) :
    Calls Try.prog 18 #[.pointer (some ⟨C, 0, none⟩), .bool s] w fun e w' => e = .returned (.tuple #[(headW xs).val, .bool xs.head?.isSome]) ∧ Below w.heap.size w w' := by
  obtain ⟨F0, hF0⟩ : ∃ F0, F0 = Value.tuple #[(headW xs).val, .bool xs.head?.isSome] := ⟨_, rfl⟩
  rw [← hF0]
  obtain ⟨w2, hw2⟩ : ∃ w2, w2 = (w.alloc (.cells #[.int .i64 0, .int .i64 0, .int .i64 0] 31)).alloc (.cells #[.bool false] 4) := ⟨_, rfl⟩
  have hF2 : Fst w2 w.heap.size .zero false := by
    rw [hw2]
    have h1 := Boxed.new (w.alloc (.cells #[.int .i64 0, .int .i64 0, .int .i64 0] 31)) 4 (.bool false)
    rw [World.size_alloc] at h1
    exact ⟨(wtAt_new w .zero).alloc _, h1⟩
  have hB2 : Below w.heap.size w w2 := by rw [hw2]; exact Below.al (below1 w _) (by simp) _
  obtain ⟨w4, hw4⟩ : ∃ w4, w4 = (w2.alloc (.cells #[.pointer (some ⟨C, 0, none⟩)] 24)).alloc (.cells #[.int .i64 (ix s : Int)] 3) := ⟨_, rfl⟩
  have hb24 : Below w2.heap.size w2 w4 := by rw [hw4]; exact Below.al (below1 w2 _) (by simp) _
  have hc4 : Boxed w4 w2.heap.size 24 (.pointer (some ⟨C, 0, none⟩)) := by rw [hw4]; exact (Boxed.new w2 _ _).alloc _
  have hi4 : Boxed w4 (w2.heap.size + 1) 3 (.int .i64 (ix s : Int)) := by
    have h1 := Boxed.new (w2.alloc (.cells #[.pointer (some ⟨C, 0, none⟩)] 24)) 3 (.int .i64 (ix s : Int))
    rw [World.size_alloc] at h1
    rw [hw4]; exact h1
  have hB4 := below_nx hB2 hb24 (Nat.le_refl _)
  have hF4 := hF2.below hb24
  have hcell4 := World.grownBy.cell (grown_below hB4) hcell (by simp)
  have hrow4 := hrow.kept (grown_below hB4) (by cases v.ownBlock <;> simp)
  have hsz : w.heap.size + 1 < w4.heap.size := hF4.is.lt
  have hra := row_any (some ⟨C, 0, none⟩) (ix s : Int) w2
  rw [← hw4] at hra
  refine (callsIn_wide (n := 4)).1 ?_
  refine callsIn_of_wp_marks Try.func18 rfl trivial ?_ rfl
  simp only [Try.ntmps18, List.size_toArray, List.length_cons, List.length_nil, Nat.reduceAdd, Nat.reduceSub, Array.replicate_succ, Array.replicate_zero, List.push_toArray, List.append_toArray, List.nil_append, List.cons_append]
  clear hcell hrow hF2
  gi_wp2_with (first | (refine ⟨trivial, ?_⟩; gi_at_call 14; refine (callsIn_wide.2 (rowOf_any s _)).mono ?_; rintro e w' ⟨rfl, rfl⟩; rw [← hw2]; clear hw2) | (refine ⟨trivial, ?_⟩; gi_at_call 15; refine (callsIn_wide.2 hra).mono ?_; rintro e w4 ⟨rfl, rfl⟩))
  rw [← hw4]
  clear hra hw4
  refine wpIn_rangeFunc_ownH rfl (by omega) (gf := 21) (lb := #[.pointer (some ⟨w2.heap.size, 0, none⟩), .pointer (some ⟨w2.heap.size + 1, 0, none⟩)]) rfl trivial (enters_of Try.func21 (by kernel_rfl) rfl)
    (row_stops hc4 hi4 hcell4 hrow4 hl (Below.refl _ _)) (fun h k => h.trans k) (fun W l o o' hl ho hc hw => belowK_b (Nat.le_refl _) W l o o' hl ho hc hw) (Below.refl _ _) (fun _ => rfl)
    (fun pre W => Below w4.heap.size w4 W ∧ pre = [])
    (fun c pre W => Fst W w.heap.size (headW pre) true ∧ Below w.heap.size w W ∧ c = .ret ∧ pre ≠ [])
    (OwnFrom.and (ownFrom_below (Nat.le_refl _) (Nat.le_refl _)) (fun _ _ _ _ h _ _ => h))
    (fun c => OwnFrom.and (fst_abides w.heap.size headW true _) (OwnFrom.and (ownFrom_below (Nat.le_refl _) hB4.size) (fun _ _ _ _ h _ _ => h)))
    ⟨Below.refl _ _, rfl⟩
    (fun x a' W => ∃ X, a' = { tmps := #[.pointer (some ⟨C, 0, none⟩), .bool s, undef, undef, .pointer (some ⟨w.heap.size, 0, none⟩), .pointer (some ⟨w.heap.size + 1, 0, none⟩), .pointer (some ⟨X, 0, none⟩), .pointer (some ⟨C, 0, none⟩), .bool s, .int .i64 (ix s : Int), .func (.func 21) #[] #[.pointer (some ⟨w2.heap.size, 0, none⟩), .pointer (some ⟨w2.heap.size + 1, 0, none⟩)], x.val, undef, undef], defers := [] } ∧ WtAt W X x ∧ w4.heap.size ≤ X) ?abides ?assign ?body ?done ?stop
  case abides =>
    intro x a' u W W' row hs hg hr
    obtain ⟨X, h1, h2, h3⟩ := hs
    exact ⟨X, h1, wtAt_abides X (fun _ : Unit => x) _ () W W' row h2 hg hr, h3⟩
  case assign =>
    rintro l pre x W K ⟨hB, HN⟩ hK
    unfold Wt.val at hK ⊢
    gi_wp2
    exact hK _ _ ((KeepsOthers.alloc W _).from _) ((below1 W _).mono hB.size) ⟨Below.al hB hB.size _, HN⟩ ⟨_, rfl, wtAt_new W x, hB.size⟩
  case body =>
    rintro l pre x a' W hl2 hr ⟨hB, rfl⟩ ⟨X, rfl, hX, hXl⟩ hlt
    have hF := hF4.below hB
    have hBw := below_nx hB4 hB (Nat.le_refl _)
    have c0 := hX.c0
    have c1 := hX.c1
    have c2 := hX.c2
    have k0 := hF.it.c0
    have k1 := hF.it.c1
    have k2 := hF.it.c2
    have k3 := hF.is.cell
    have f0 := hF.it.frozen 0
    have f1 := hF.it.frozen 1
    have f2 := hF.it.frozen 2
    have f3 := hF.is.frozen
    have hn0 : X ≠ w.heap.size := by omega
    have hn1 : X ≠ w.heap.size + 1 := by omega
    unfold Wt.val
    gi_wp2
    exact ⟨(fst_others W w.heap.size x true).from _, ⟨hF.set x true, fst_below hBw (Nat.le_refl _) x true, rfl, by simp⟩⟩
  case done =>
    rintro D ys W hD hys ⟨hB, he⟩ hK
    have HE : Hid (Value.tuple #[Wt.zero.val, .bool false] = F0) := Lib.hid (by rw [hF0, ← show ys = xs from hys, he]; rfl)
    clear hys he hF0
    have hF := hF4.below hB
    have hBw := below_nx hB4 hB (Nat.le_refl _)
    have k0 := hF.it.c0
    have k1 := hF.it.c1
    have k2 := hF.it.c2
    have k3 := hF.is.cell
    have f0 := hF.it.frozen 0
    have f1 := hF.it.frozen 1
    have f2 := hF.it.frozen 2
    have f3 := hF.is.frozen
    gi_wp2
    exact first_end F0 w _ D (by omega) .zero false _ _ _ _ _ _ _ _ _ _ _ _ (hF.set .zero false) (fst_below hBw (Nat.le_refl _) .zero false) ((fst_others W w.heap.size .zero false).same D _ hK rfl) HE
  case stop =>
    rintro D c pre W hD hpre ⟨hF, hB, rfl, hne⟩ hK
    have HE : Hid (Value.tuple #[(headW pre).val, .bool true] = F0) := Lib.hid (by
      rw [hF0]
      cases pre with
      | nil => exact absurd rfl hne
      | cons x t => obtain ⟨r, hr⟩ := hpre; rw [← hr]; rfl)
    clear hpre hne hF0
    gi_wp2
    exact first_end F0 w W D (by omega) _ _ _ _ _ _ _ _ _ _ _ _ _ _ hF hB hK HE
end Go.Proofs.Ytbelfcfdgkmnmaa
