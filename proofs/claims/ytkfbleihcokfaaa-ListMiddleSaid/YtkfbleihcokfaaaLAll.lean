/-
  The walk of All: a loop over the iterator.
-/
import Derived.Test.YtkfbleihcokfaaaLIter
namespace Go.Proofs.Ytkfbleihcokfaaa
open Go.RowKit Go.Shelf

attribute [local go_sem] Oper.semAt_some

theorem infoInt : (Try.prog.info? 3).map (fun i => (i.zero, i.size, i.bytes)) = some (some (.int .i64 0), 1, 8) := by kernel_rfl
theorem owns_slice {w : World} {base : Nat} {e : TypeId} {size : Nat} {v : Value} {k : Nat} {xs : List Value} (h : w.ownsRow base e size v k xs) : ∃ a n c, v = .slice a n c := by
  rcases h.2 with ⟨rfl, _⟩ | ⟨g, cap, _, rfl, _⟩
  · exact ⟨_, _, _, rfl⟩
  · exact ⟨_, _, _, rfl⟩
def I64 (xs : List Int) : List Value := xs.map fun x => Value.int .i64 x
theorem I64_snoc (xs : List Int) (x : Int) : I64 (xs ++ [x]) = I64 xs ++ [.int .i64 x] := by simp [I64]
theorem I64_len (xs : List Int) : (I64 xs).length = xs.length := by simp [I64]

theorem keepQ_append {W w1 : World} {n₀ B : Nat} {v v' : Value} {k : Nat} {xs : List Value} {tmp : Obj} (hn : n₀ ≤ W.heap.size) (hnB : n₀ ≤ B) (hrow : W.ownsRow n₀ 3 1 v k xs) (hg : (W.alloc tmp).grownBy w1 v.ownBlock) {u : Value} (hb : Boxed w1 B 27 u) : KeepQ n₀ W (w1.setCell ⟨B, 0, none⟩ v') := by
  have hg0 := World.grownBy_alloc W tmp none
  have b1 : Below n₀ W (W.alloc tmp) := (Below.refl _ _).alloc hn tmp
  have b2 : Below n₀ (W.alloc tmp) w1 := (Below.refl _ _).grown hg (Nat.le_trans hn (World.grownBy_alloc W tmp none).size) (fun g e => (hrow.lt g e).1)
  have b3 : Below n₀ w1 (w1.setCell ⟨B, 0, none⟩ v') := (Below.refl _ _).setCell hnB v'
  refine ((KeepQ.grown b1 hg0 (fun _ _ _ e => by cases e)).trans (KeepQ.grown b2 hg fun k' cs z e hk => ?_)).trans (KeepQ.grown b3 (grownBy_setCell' w1 B v') fun k' cs z e hk => ?_)
  · rcases (hrow.alloc tmp).2 with ⟨rfl, _⟩ | ⟨g, cap, cur, rfl, _, hgb, _⟩
    · simp [Value.ownBlock] at e
    · obtain rfl : g = k' := by simpa [Value.ownBlock] using e
      rw [hgb] at hk; cases hk
  · cases e
    rw [show w1.heap[B]? = _ from hb] at hk; cases hk

set_option maxRecDepth 100000 in
set_option maxHeartbeats 1000000 in
theorem all_of (p : Option Addr) (ys : List Int) (w : World) (hR : IterOf p ys w) :
    Calls Try.prog 23 #[.pointer p] w fun e w' => ∃ v, e = .returned v ∧ w'.ownsRow w.heap.size 3 1 v ys.length (I64 ys) ∧ Below w.heap.size w w' := by
  obtain ⟨i0, hi, hz0, hz1, hz2⟩ := info_parts infoInt
  refine (callsIn_wide (n := 4)).1 ?_
  refine callsIn_of_wp_marks Try.func23 rfl trivial ?_ rfl
  simp only [Try.ntmps23, List.size_toArray, List.length_cons, List.length_nil, Nat.reduceAdd, Nat.reduceSub, Array.replicate_succ, Array.replicate_zero, List.push_toArray, List.append_toArray, List.nil_append, List.cons_append]
  gi_wp2_with (refine ⟨trivial, ?_⟩; gi_at_call 27; refine (callsIn_wide.2 (numbers_any p _)).mono ?_; rintro e w' ⟨rfl, rfl⟩)
  have bO := Boxed.new w 27 (.slice none 0 0)
  have bN := Boxed.new (w.alloc (.cells #[.slice none 0 0] 27)) 24 (.pointer p)
  rw [World.size_alloc] at bN
  have hB0 : Below w.heap.size w ((w.alloc (.cells #[.slice none 0 0] 27)).alloc (.cells #[.pointer p] 24)) := ((Below.refl _ w).alloc (Nat.le_refl _) _).alloc (by simp) _
  refine wpIn_rangeFunc_ownG rfl (by omega) (gf := 30) (lb := #[.pointer (some ⟨w.heap.size + 1, 0, none⟩)]) rfl trivial (enters_of Try.func30 (by kernel_rfl) rfl)
    (hR _ (w.heap.size + 1) hB0 bN) (fun h k => KeepQ.trans h k) (fun W l o o' hl ho hc hw => KeepQ.putObj (by simp; omega) W l o o' hl ho hc hw) (Below.refl _ _) (fun _ => rfl)
    (fun pre W => (∃ v, Boxed W w.heap.size 27 v ∧ W.ownsRow w.heap.size 3 1 v pre.length (I64 pre) ∧ True) ∧ Below w.heap.size w W)
    (fun _ _ _ => False)
    (OwnFrom.and (Own.from (holdsRow_own w.heap.size w.heap.size 27 3 1 (fun pre : List Int => pre.length) (fun pre => I64 pre) (fun _ _ => True)) _) (ownFrom_below (Nat.le_refl _) (by simp; omega)))
    (fun _ _ _ _ _ hs _ _ => hs)
    ⟨⟨_, bO.alloc _, World.ownsRow_nil _ _ _ _, trivial⟩, hB0⟩
    (fun x => { tmps := #[.pointer p, undef, .pointer (some ⟨w.heap.size, 0, none⟩), .int .i64 x, .pointer p, .func (.func 30) #[] #[.pointer (some ⟨w.heap.size + 1, 0, none⟩)], .int .i64 x, undef, undef, undef, undef, undef], defers := [] }) ?assign ?body ?done ?stop
  case assign =>
    intro l x W K hK
    gi_wp2
    simpa using hK
  case body =>
    rintro l pre x W ⟨⟨v, hv, hrow, -⟩, hB⟩ hlt
    have hc := hv.cell
    gi_wp2_with (gi_at_builtin; refine wpListIn_append_own _ rfl _ _ 27 rfl w.heap.size 3 i0 (.int .i64 0) 1 8 Try.underlying27 hi hz0 hz1 hz2 rfl (by decide) _ _ _ rfl (hrow.alloc _) ⟨W.heap.size, 0, none⟩ 1 1 [.int .i64 x] rfl rfl (cell_one_new _ _ _) (by simp [Value.oneCell']) (by unfold maxLen; omega) (by omega) (by have := hB.size; simp; omega) ?_; intro v' w1 hown' hgrow _; obtain ⟨g', cap', rfl⟩ := ownsRow_succ hown'; obtain ⟨hv1, hv2, hr2, hk2, hb2⟩ := hv.appended (by decide) hrow hB.size (Nat.le_refl _) hown' hgrow; have hc1 := hv1.cell; have hf1 := hv1.frozen; have hkr := keepQ_append (v' := .slice (some ⟨g', 0, none⟩) (pre.length + 1) cap') hB.size (Nat.le_refl _) hrow hgrow hv1)
    exact ⟨hk2.from _, hkr, ⟨_, hv2, by rw [I64_snoc]; simpa using hr2, trivial⟩, hB.trans hb2⟩
  case done =>
    rintro D xs W hD hys ⟨⟨v, hv, hrow, -⟩, hB⟩ hK
    have HY : Hid (xs = ys) := Lib.hid hys
    clear hys
    obtain ⟨va, vn, vc, rfl⟩ := owns_slice hrow
    have hc := hv.cell
    have hf := hv.frozen
    gi_wp2
    have hK' := (KeepsOthers.setCell W ⟨w.heap.size, 0, none⟩ (.slice va vn vc)).same D _ hK rfl
    have hv2 := hv.set (.slice va vn vc)
    have hrow2 := hrow.kept (grownBy_setCell' W w.heap.size (.slice va vn vc)) (.inr (hv.not_row (by decide) hrow).symm)
    have gB := hB.setCell (p := ⟨w.heap.size, 0, none⟩) (Nat.le_refl _) (.slice va vn vc)
    generalize W.setCell ⟨w.heap.size, 0, none⟩ (.slice va vn vc) = W1 at hK' hv2 hrow2 gB ⊢
    refine ⟨by simp, .inl ⟨_, _, rfl, run_takeDeferred hK', ?_⟩⟩
    have hc5 := cell_kept hv2.cell (grownBy_putObj' _ D (.deferred none)) (fun r e => by cases e; exact ⟨_, hK', rfl⟩)
    refine ⟨.slice va vn vc, ?_, _, rfl, ?_, gB.trans (belowK_b (w := w) (Nat.le_refl _) _ D _ _ (by simp at hD; omega) hK' rfl rfl)⟩
    · simp [results, Try.f23, go_sem, hc5]
    · rw [← HY.out]; exact ownsRow_putObj hrow2 _ hK' rfl
  case stop =>
    rintro D c pre W _ _ h _
    exact h.elim

theorem all_any {B M : Nat} {xs : List Int} (w : World) (h : Que w B M xs) :
    Calls Try.prog 23 #[.pointer (some ⟨B, 0, none⟩)] w fun e w' => ∃ v, e = .returned v ∧ w'.ownsRow w.heap.size 3 1 v xs.length (I64 xs) ∧ Below w.heap.size w w' := all_of _ _ w (iter_que h)
theorem all_nil (w : World) :
    Calls Try.prog 23 #[.pointer none] w fun e w' => ∃ a c, e = .returned (.slice a 0 c) ∧ Below w.heap.size w w' :=
  (all_of _ _ w (iter_none w)).mono fun _ _ ⟨v, h1, h2, h3⟩ => by
    rcases h2.2 with ⟨rfl, _⟩ | ⟨g, cap, cur, rfl, _⟩
    · exact ⟨_, _, h1, h3⟩
    · exact ⟨_, _, h1, h3⟩
end Go.Proofs.Ytkfbleihcokfaaa
