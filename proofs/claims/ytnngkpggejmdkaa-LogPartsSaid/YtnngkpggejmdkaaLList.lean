/-
  The walks of what tells of a log those that are meant: list, List, Commits, Of, Kind, Between.
-/
import Derived.Test.YtnngkpggejmdkaaLIter
namespace Go.Proofs.Ytnngkpggejmdkaa
open Go.RowKit Go.Shelf

attribute [local go_sem] Oper.semAt_some

theorem infoEntry : (Try.prog.info? 31).map (fun i => (i.zero, i.size, i.bytes)) = some (some (.agg #[.int .i64 0, .int .u8 0, .int .i64 0, .int .i64 0, .int .i64 0, .int .i64 0, .int .i64 0, .int .i64 0, .int .i64 0, .int .i64 0, .bool false, .int .i64 0, .int .u64 0]), 13, 104) := by kernel_rfl
theorem owns_slice {w : World} {base : Nat} {e : TypeId} {size : Nat} {v : Value} {k : Nat} {xs : List Value} (h : w.ownsRow base e size v k xs) : ∃ a c, v = .slice a k c := by
  rcases h.2 with ⟨rfl, rfl⟩ | ⟨g, cap, _, rfl, _⟩
  · exact ⟨_, _, rfl⟩
  · exact ⟨_, _, rfl⟩
def flatE (xs : List En) : List Value := xs.flatMap En.cellsL
theorem flatE_snoc (xs : List En) (x : En) : flatE (xs ++ [x]) = flatE xs ++ x.cellsL := by simp [flatE]
theorem en_cell {W : World} {B : Nat} {x : En} (h : EnAt W B x) (j : Nat) (u : Value) (hj : x.cellsL[j]? = some u) : W.cell? (Addr.add ⟨B, 0, none⟩ j) = some u := by
  rw [show Addr.add ⟨B, 0, none⟩ j = ⟨B, j, none⟩ by by_cases e : j = 0 <;> simp [Addr.add, e]]
  simp only [World.cell?, show W.heap[_]? = _ from h]
  simpa [En.cellsL] using hj
theorem enAt_abides {β : Type} (B : Nat) (f : β → En) (m : Nat) : OwnFrom m (fun (s : β) W => EnAt W B (f s)) :=
  Own.from (I := fun (s : β) (W : World) => EnAt W B (f s)) (fun sx A W' row hs hg hr => hs.of_block (hg.block B hs.lt (fun e => by
    obtain ⟨o, ho, hn⟩ := hr B e.symm
    rw [show A.heap[B]? = _ from hs] at ho
    cases ho
    cases hn))) m

theorem keepT_append {W w1 : World} {n₀ B : Nat} {v v' : Value} {k : Nat} {xs : List Value} {tmp : Obj} (hn : n₀ ≤ W.heap.size) (hnB : n₀ ≤ B) (hrow : W.ownsRow n₀ 31 13 v k xs) (hg : (W.alloc tmp).grownBy w1 v.ownBlock) {u : Value} (hb : Boxed w1 B 22 u) : KeepT [24, 49] n₀ W (w1.setCell ⟨B, 0, none⟩ v') := by
  have hg0 := World.grownBy_alloc W tmp none
  have b1 : Below n₀ W (W.alloc tmp) := (Below.refl _ _).alloc hn tmp
  have b2 : Below n₀ (W.alloc tmp) w1 := (Below.refl _ _).grown hg (Nat.le_trans hn (World.grownBy_alloc W tmp none).size) (fun g e => (hrow.lt g e).1)
  have b3 : Below n₀ w1 (w1.setCell ⟨B, 0, none⟩ v') := (Below.refl _ _).setCell hnB v'
  refine ((KeepT.grown b1 hg0 (fun _ _ _ _ _ e => by cases e)).trans (KeepT.grown b2 hg fun k' cs t z ht e hk => ?_)).trans (KeepT.grown b3 (grownBy_setCell' w1 B v') fun k' cs t z ht e hk => ?_)
  · rcases (hrow.alloc tmp).2 with ⟨rfl, _⟩ | ⟨g, cap, cur, rfl, _, hgb, _⟩
    · simp [Value.ownBlock] at e
    · obtain rfl : g = k' := by simpa [Value.ownBlock] using e
      rw [hgb] at hk; cases hk; revert ht; decide
  · cases e
    rw [show w1.heap[B]? = _ from hb] at hk; cases hk; revert ht; decide

set_option maxRecDepth 100000 in
set_option maxHeartbeats 1000000 in
theorem list_of {b B : Nat} {lv : Value} {xs : List En} {K : Nat} {lb : Array Value} {P : En → Bool} (w : World) (hL : LogAt w b B lv xs) (hl : xs.length ≤ 1000) (hx : ∀ x ∈ xs, x.ok) (hM : Meant K lb P w) :
    Calls Try.prog 23 #[.pointer (some ⟨B, 0, none⟩), .func (.func K) #[] lb] w fun e w' => ∃ v, e = .returned v ∧ w'.ownsRow w.heap.size 31 13 v (xs.filter P).length (flatE (xs.filter P)) ∧ Below w.heap.size w w' := by
  obtain ⟨i0, hi, hz0, hz1, hz2⟩ := info_parts infoEntry
  refine (callsIn_wide (n := 4)).1 ?_
  refine callsIn_of_wp_marks Try.func23 rfl trivial ?_ rfl
  simp only [Try.ntmps23, List.size_toArray, List.length_cons, List.length_nil, Nat.reduceAdd, Nat.reduceSub, Array.replicate_succ, Array.replicate_zero, List.push_toArray, List.append_toArray, List.nil_append, List.cons_append]
  gi_wp2_with (refine ⟨trivial, ?_⟩; gi_at_call 33; refine (callsIn_wide.2 (those_any (some ⟨B, 0, none⟩) K lb _)).mono ?_; rintro e w' ⟨rfl, rfl⟩)
  have bO := Boxed.new w 22 (.slice none 0 0)
  have bN := Boxed.new (w.alloc (.cells #[.slice none 0 0] 22)) 24 (.pointer (some ⟨B, 0, none⟩))
  have bF := Boxed.new ((w.alloc (.cells #[.slice none 0 0] 22)).alloc (.cells #[.pointer (some ⟨B, 0, none⟩)] 24)) 49 (.func (.func K) #[] lb)
  simp only [World.size_alloc] at bN bF
  have hB0 : Below w.heap.size w (((w.alloc (.cells #[.slice none 0 0] 22)).alloc (.cells #[.pointer (some ⟨B, 0, none⟩)] 24)).alloc (.cells #[.func (.func K) #[] lb] 49)) := (((Below.refl _ w).alloc (Nat.le_refl _) _).alloc (by simp) _).alloc (by simp; omega) _
  refine wpIn_rangeFunc_ownH rfl (by omega) (gf := 44) (lb := #[.pointer (some ⟨w.heap.size + 1, 0, none⟩), .pointer (some ⟨w.heap.size + 1 + 1, 0, none⟩)]) rfl trivial (enters_of Try.func44 (by kernel_rfl) rfl)
    (those_stops (bN.alloc _) bF hL hl hx hM hB0) (fun h k => KeepT.trans h k) (fun W l o o' hl ho hc hw => KeepT.putObj (by simp; omega) W l o o' hl ho hc hw) (Below.refl _ _) (fun _ => rfl)
    (fun pre W => (∃ v, Boxed W w.heap.size 22 v ∧ W.ownsRow w.heap.size 31 13 v pre.length (flatE pre) ∧ True) ∧ Below w.heap.size w W)
    (fun _ _ _ => False)
    (OwnFrom.and (Own.from (holdsRow_own w.heap.size w.heap.size 22 31 13 (fun pre : List En => pre.length) (fun pre => flatE pre) (fun _ _ => True)) _) (ownFrom_below (Nat.le_refl _) (by simp; omega)))
    (fun _ _ _ _ _ hs _ _ => hs)
    ⟨⟨_, (bO.alloc _).alloc _, World.ownsRow_nil _ _ _ _, trivial⟩, hB0⟩
    (fun x a' W => ∃ X, a' = { tmps := #[.pointer (some ⟨B, 0, none⟩), .func (.func K) #[] lb, undef, undef, .pointer (some ⟨w.heap.size, 0, none⟩), .pointer (some ⟨X, 0, none⟩), .pointer (some ⟨B, 0, none⟩), .func (.func K) #[] lb, .func (.func 44) #[] #[.pointer (some ⟨w.heap.size + 1, 0, none⟩), .pointer (some ⟨w.heap.size + 1 + 1, 0, none⟩)], x.val, undef, undef, undef, undef, undef], defers := [] } ∧ EnAt W X x) ?abides ?assign ?body ?done ?stop
  case abides =>
    intro x a' s W W' row hs hg hr
    obtain ⟨X, h1, h2⟩ := hs
    exact ⟨X, h1, enAt_abides X (fun _ : Unit => x) _ () W W' row h2 hg hr⟩
  case assign =>
    rintro l pre x W K ⟨⟨v, hv, hrow, -⟩, hB⟩ hK
    unfold En.val at hK ⊢
    gi_wp2
    exact hK _ _ ((KeepsOthers.alloc W _).from _) (KeepT.fresh (below1 W _) hB.size) ⟨⟨v, hv.alloc _, hrow.alloc _, trivial⟩, Below.al hB hB.size _⟩ ⟨_, rfl, enAt_new W x⟩
  case body =>
    rintro l pre x a' W hl2 hr ⟨⟨v, hv, hrow, -⟩, hB⟩ ⟨X, rfl, hX⟩ hlt
    obtain ⟨va, vc, rfl⟩ := owns_slice hrow
    have hc := hv.cell
    have c0 := hX.c0
    have c1 := hX.c1
    have c2 := hX.c2
    have c3 := hX.c3
    have c4 := hX.c4
    have c5 := hX.c5
    have c6 := hX.c6
    have c7 := hX.c7
    have c8 := hX.c8
    have c9 := hX.c9
    have c10 := hX.c10
    have c11 := hX.c11
    have c12 := hX.c12
    have hne := fun (j : Nat) (u : Value) (hj : x.cellsL[j]? = some u) => en_cell (enAt_new W x) j u hj
    have h1 : ∀ u ∈ x.cellsL, u.oneCell' = true := by simpa using en_one [x]
    unfold En.val
    gi_wp2_with (gi_at_builtin; refine wpListIn_append_own _ rfl _ _ 22 rfl w.heap.size 31 i0 (.agg #[.int .i64 0, .int .u8 0, .int .i64 0, .int .i64 0, .int .i64 0, .int .i64 0, .int .i64 0, .int .i64 0, .int .i64 0, .int .i64 0, .bool false, .int .i64 0, .int .u64 0]) 13 104 Try.underlying22 hi hz0 hz1 hz2 rfl (by decide) _ _ _ rfl (hrow.alloc _) ⟨W.heap.size, 0, none⟩ 1 1 x.cellsL rfl rfl hne h1 (by unfold maxLen; omega) (by omega) (by have := hB.size; simp; omega) ?_; intro v' w1 hown' hgrow _; obtain ⟨g', cap', rfl⟩ := ownsRow_succ hown'; obtain ⟨hv1, hv2, hr2, hk2, hb2⟩ := hv.appended (by decide) hrow hB.size (Nat.le_refl _) hown' hgrow; have hc1 := hv1.cell; have hf1 := hv1.frozen; have hkr := keepT_append (v' := .slice (some ⟨g', 0, none⟩) (pre.length + 1) cap') hB.size (Nat.le_refl _) hrow hgrow hv1)
    exact ⟨hk2.from _, hkr, ⟨_, hv2, by rw [flatE_snoc]; simpa using hr2, trivial⟩, hB.trans hb2⟩
  case done =>
    rintro D ys W hD hys ⟨⟨v, hv, hrow, -⟩, hB⟩ hK
    have HY : Hid (ys = xs.filter P) := Lib.hid hys
    clear hys
    obtain ⟨va, vc, rfl⟩ := owns_slice hrow
    have hc := hv.cell
    have hf := hv.frozen
    gi_wp2
    have hK' := (KeepsOthers.setCell W ⟨w.heap.size, 0, none⟩ (.slice va ys.length vc)).same D _ hK rfl
    have hv2 := hv.set (.slice va ys.length vc)
    have hrow2 := hrow.kept (grownBy_setCell' W w.heap.size (.slice va ys.length vc)) (.inr (hv.not_row (by decide) hrow).symm)
    have gB := hB.setCell (p := ⟨w.heap.size, 0, none⟩) (Nat.le_refl _) (.slice va ys.length vc)
    generalize W.setCell ⟨w.heap.size, 0, none⟩ (.slice va ys.length vc) = W1 at hK' hv2 hrow2 gB ⊢
    refine ⟨by simp, .inl ⟨_, _, rfl, run_takeDeferred hK', ?_⟩⟩
    have hc5 := cell_kept hv2.cell (grownBy_putObj' _ D (.deferred none)) (fun r e => by cases e; exact ⟨_, hK', rfl⟩)
    refine ⟨.slice va ys.length vc, ?_, _, rfl, ?_, gB.trans (belowK_b (w := w) (Nat.le_refl _) _ D _ _ (by simp at hD; omega) hK' rfl rfl)⟩
    · simp [results, Try.f23, go_sem, hc5]
    · rw [← HY.out]; exact ownsRow_putObj hrow2 _ hK' rfl
  case stop =>
    rintro D c pre W _ _ h _
    exact h.elim
end Go.Proofs.Ytnngkpggejmdkaa
