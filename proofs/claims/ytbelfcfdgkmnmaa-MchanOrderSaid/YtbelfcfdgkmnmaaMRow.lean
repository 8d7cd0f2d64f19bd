/-
  The walk of Row.
-/
import Derived.Test.YtbelfcfdgkmnmaaMFirst
namespace Go.Proofs.Ytbelfcfdgkmnmaa
open Go.RowKit Go.Shelf

attribute [local go_sem] Oper.semAt_some

theorem below_append {W w1 : World} {n₀ B : Nat} {v v' : Value} {k : Nat} {xs : List Value} {tmp : Obj} (hn : n₀ ≤ W.heap.size) (hnB : n₀ ≤ B) (hrow : W.ownsRow n₀ 31 3 v k xs) (hg : (W.alloc tmp).grownBy w1 v.ownBlock) : Below n₀ W (w1.setCell ⟨B, 0, none⟩ v') :=
  (((Below.refl _ _).alloc hn tmp).trans ((Below.refl _ _).grown hg (Nat.le_trans hn (World.grownBy_alloc W tmp none).size) (fun g e => (hrow.lt g e).1))).trans ((Below.refl _ _).setCell hnB v')

set_option maxRecDepth 100000 in
set_option maxHeartbeats 1000000 in
theorem crow_any {C : Nat} {s : Bool} {v : Value} {xs : List Wt} (w : World) (hcell : w.cell? ⟨C, 2 + ix s, none⟩ = some v) (hrow : w.ownsRow 0 31 3 v xs.length (flatW xs)) (hl : xs.length ≤ 1000) :
    Calls Try.prog 10 #[.pointer (some ⟨C, 0, none⟩), .bool s] w fun e w' => ∃ v, e = .returned v ∧ w'.ownsRow w.heap.size 31 3 v xs.length (flatW xs) ∧ Below w.heap.size w w' := by
  obtain ⟨i0, hi, hz0, hz1, hz2⟩ := info_parts infoWait
  obtain ⟨w2, hw2⟩ : ∃ w2, w2 = w.alloc (.cells #[.slice none 0 0] 38) := ⟨_, rfl⟩
  have hr2 : Boxed w2 w.heap.size 38 (.slice none 0 0) := by rw [hw2]; exact Boxed.new w _ _
  have hB2 : Below w.heap.size w w2 := by rw [hw2]; exact below1 w _
  obtain ⟨w4, hw4⟩ : ∃ w4, w4 = (w2.alloc (.cells #[.pointer (some ⟨C, 0, none⟩)] 24)).alloc (.cells #[.int .i64 (ix s : Int)] 3) := ⟨_, rfl⟩
  have hb24 : Below w2.heap.size w2 w4 := by rw [hw4]; exact Below.al (below1 w2 _) (by simp) _
  have hc4 : Boxed w4 w2.heap.size 24 (.pointer (some ⟨C, 0, none⟩)) := by rw [hw4]; exact (Boxed.new w2 _ _).alloc _
  have hi4 : Boxed w4 (w2.heap.size + 1) 3 (.int .i64 (ix s : Int)) := by
    have h1 := Boxed.new (w2.alloc (.cells #[.pointer (some ⟨C, 0, none⟩)] 24)) 3 (.int .i64 (ix s : Int))
    rw [World.size_alloc] at h1
    rw [hw4]; exact h1
  have hB4 := below_nx hB2 hb24 (Nat.le_refl _)
  have hr4 := boxed_below hr2 hb24
  have hsz : w.heap.size < w4.heap.size := hr4.lt
  have hra := row_any (some ⟨C, 0, none⟩) (ix s : Int) w2
  rw [← hw4] at hra
  refine (callsIn_wide (n := 4)).1 ?_
  refine callsIn_of_wp_marks Try.func10 rfl trivial ?_ rfl
  simp only [Try.ntmps10, List.size_toArray, List.length_cons, List.length_nil, Nat.reduceAdd, Nat.reduceSub, Array.replicate_succ, Array.replicate_zero, List.push_toArray, List.append_toArray, List.nil_append, List.cons_append]
  clear hr2
  gi_wp2_with (first | (refine ⟨trivial, ?_⟩; gi_at_call 14; refine (callsIn_wide.2 (rowOf_any s _)).mono ?_; rintro e w' ⟨rfl, rfl⟩; rw [← hw2]; clear hw2) | (refine ⟨trivial, ?_⟩; gi_at_call 15; refine (callsIn_wide.2 hra).mono ?_; rintro e w4 ⟨rfl, rfl⟩))
  rw [← hw4]
  clear hra hw4
  refine wpIn_rangeFunc_ownH rfl (by omega) (gf := 21) (lb := #[.pointer (some ⟨w2.heap.size, 0, none⟩), .pointer (some ⟨w2.heap.size + 1, 0, none⟩)]) rfl trivial (enters_of Try.func21 (by kernel_rfl) rfl)
    (row_stops hc4 hi4 hcell hrow hl hB4) (fun h k => h.trans k) (fun W l o o' hl ho hc hw => belowK_b hB4.size W l o o' hl ho hc hw) (Below.refl _ _) (fun _ => rfl)
    (fun pre W => (∃ v, Boxed W w.heap.size 38 v ∧ W.ownsRow w.heap.size 31 3 v pre.length (flatW pre) ∧ True) ∧ Below w.heap.size w W)
    (fun _ _ _ => False)
    (OwnFrom.and (Own.from (holdsRow_own w.heap.size w.heap.size 38 31 3 (fun pre : List Wt => pre.length) (fun pre => flatW pre) (fun _ _ => True)) _) (ownFrom_below (Nat.le_refl _) hB4.size))
    (fun _ _ _ _ _ hs _ _ => hs)
    ⟨⟨_, hr4, World.ownsRow_nil _ _ _ _, trivial⟩, hB4⟩
    (fun x a' W => ∃ X, a' = { tmps := #[.pointer (some ⟨C, 0, none⟩), .bool s, undef, undef, .pointer (some ⟨w.heap.size, 0, none⟩), .pointer (some ⟨X, 0, none⟩), .pointer (some ⟨C, 0, none⟩), .bool s, .int .i64 (ix s : Int), .func (.func 21) #[] #[.pointer (some ⟨w2.heap.size, 0, none⟩), .pointer (some ⟨w2.heap.size + 1, 0, none⟩)], x.val, undef, undef, undef, undef, undef], defers := [] } ∧ WtAt W X x) ?abides ?assign ?body ?done ?stop
  case abides =>
    intro x a' u W W' row hs hg hr
    obtain ⟨X, h1, h2⟩ := hs
    exact ⟨X, h1, wtAt_abides X (fun _ : Unit => x) _ () W W' row h2 hg hr⟩
  case assign =>
    rintro l pre x W K ⟨⟨v, hv, hrow, -⟩, hB⟩ hK
    unfold Wt.val at hK ⊢
    gi_wp2
    exact hK _ _ ((KeepsOthers.alloc W _).from _) ((below1 W _).mono hB.size) ⟨⟨v, hv.alloc _, hrow.alloc _, trivial⟩, Below.al hB hB.size _⟩ ⟨_, rfl, wtAt_new W x⟩
  case body =>
    rintro l pre x a' W hl2 hr ⟨⟨v, hv, hrow, -⟩, hB⟩ ⟨X, rfl, hX⟩ hlt
    obtain ⟨va, vc, rfl⟩ := owns_slice' hrow
    have hc := hv.cell
    have c0 := hX.c0
    have c1 := hX.c1
    have c2 := hX.c2
    have hne := fun (j : Nat) (u : Value) (hj : x.cellsL[j]? = some u) => wt_cell (wtAt_new W x) j u hj
    have h1 := wt_one x
    unfold Wt.val
    gi_wp2_with (gi_at_builtin; refine wpListIn_append_own _ rfl _ _ 38 rfl w.heap.size 31 i0 (.agg #[.int .i64 0, .int .i64 0, .int .i64 0]) 3 24 Try.underlying38 hi hz0 hz1 hz2 rfl (by decide) _ _ _ rfl (hrow.alloc _) ⟨W.heap.size, 0, none⟩ 1 1 x.cellsL rfl rfl hne h1 (by unfold maxLen; omega) (by omega) (by have := hB.size; simp; omega) ?_; intro v' w1 hown' hgrow _; obtain ⟨g', cap', rfl⟩ := ownsRow_succ hown'; obtain ⟨hv1, hv2, hr2, hk2, hb2⟩ := hv.appended (by decide) hrow hB.size (Nat.le_refl _) hown' hgrow; have hc1 := hv1.cell; have hf1 := hv1.frozen; have hkr := below_append (v' := .slice (some ⟨g', 0, none⟩) (pre.length + 1) cap') (B := w.heap.size) hB.size (Nat.le_refl _) hrow hgrow)
    exact ⟨hk2.from _, hkr, ⟨_, hv2, by rw [flatW_snoc]; simpa using hr2, trivial⟩, hB.trans hb2⟩
  case done =>
    rintro D ys W hD hys ⟨⟨v, hv, hrow, -⟩, hB⟩ hK
    have HY : Hid (ys = xs) := Lib.hid hys
    clear hys
    obtain ⟨va, vc, rfl⟩ := owns_slice' hrow
    have hc := hv.cell
    have hf := hv.frozen
    gi_wp2
    have hK' := (KeepsOthers.setCell W ⟨w.heap.size, 0, none⟩ (.slice va ys.length vc)).same D _ hK rfl
    have hv2 := hv.set (.slice va ys.length vc)
    have hrow2 := hrow.kept (grownBy_setCell' W w.heap.size (.slice va ys.length vc)) (.inr (hv.not_row (by decide) hrow).symm)
    have gB := hB.setCell (p := ⟨w.heap.size, 0, none⟩) (Nat.le_refl _) (.slice va ys.length vc)
    generalize W.setCell ⟨w.heap.size, 0, none⟩ (.slice va ys.length vc) = W1 at hK' hv2 hrow2 gB ⊢
    refine ⟨by simp, .inl ⟨_, _, rfl, run_takeDeferred hK', ?_⟩⟩
    have hc5 := cell_kept hv2.cell (grownBy_putObj' _ D (.deferred none)) (fun r e => by cases e; exact ⟨_, hK', rfl⟩)
    refine ⟨.slice va ys.length vc, ?_, _, rfl, ?_, gB.trans (belowK_b (w := w) (Nat.le_refl _) _ D _ _ (by omega) hK' rfl rfl)⟩
    · simp [results, Try.f10, go_sem, hc5]
    · rw [← HY.out]; exact ownsRow_putObj hrow2 _ hK' rfl
  case stop =>
    rintro D c pre W _ _ h _
    exact h.elim
end Go.Proofs.Ytbelfcfdgkmnmaa
