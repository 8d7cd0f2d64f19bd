/-
  The walks of ring.Front and ring.List: loops over the iterator.
-/
import Derived.Test.YtkpnkhakjgfgfaaRIter
namespace Go.Proofs.Ytkpnkhakjgfgfaa.Rg
open Go.RowKit Go.Shelf

attribute [local go_sem] Oper.semAt_some

theorem boxed_abides {β : Type} (B : Nat) (t : TypeId) (f : β → Value) (m : Nat) : OwnFrom m (fun (s : β) W => Boxed W B t (f s)) :=
  Own.from (fun sx A W' row hs hg hr => hs.kept hg (fun e' => by obtain ⟨o, ho, hc⟩ := hr _ e'.symm; rw [show A.heap[B]? = _ from hs] at ho; cases ho; cases hc)) m

theorem front_end (F0 : Value) (w W : World) (D : Nat) (hD : w.heap.size ≤ D) (v b t0 t1 t4 t5 t6 t7 t8 : Value) (h0 : Boxed W w.heap.size 2 v) (h1 : Boxed W (w.heap.size + 1) 4 b) (hB : Below w.heap.size w W) (hK : W.heap[D]? = some (.deferred (some [])))
    (HE : Hid (Value.tuple #[v, b] = F0)) :
    bodyPostM Fence.wide 4 Try.prog Try.f58 (fun e w' => e = .returned F0 ∧ Below w.heap.size w w') .ret
      { tmps := #[t0, t1, .pointer (some ⟨w.heap.size, 0, none⟩), .pointer (some ⟨w.heap.size + 1, 0, none⟩), t4, t5, t6, t7, t8], defers := [{ target := Target.collected D, args := #[] }] } W := by
  refine ⟨by simp, .inl ⟨_, _, rfl, run_takeDeferred hK, ?_⟩⟩
  have c0 := cell_kept h0.cell (grownBy_putObj' _ D (.deferred none)) (fun r e => by cases e; exact ⟨_, hK, rfl⟩)
  have c1 := cell_kept h1.cell (grownBy_putObj' _ D (.deferred none)) (fun r e => by cases e; exact ⟨_, hK, rfl⟩)
  refine ⟨.tuple #[v, b], ?_, by rw [HE.out], hB.trans (belowK_b (w := w) (Nat.le_refl _) _ D _ _ (by omega) hK rfl rfl)⟩
  simp [results, Try.f58, go_sem, c0, c1]

set_option maxRecDepth 100000 in
set_option maxHeartbeats 400000 in
theorem front_of (p : Option Addr) (ys : List Int) (w : World) (hR : IterOf p ys w) :
    Calls Try.prog 58 #[.pointer p] w fun e w' => e = .returned (.tuple #[.int .i64 (ys.head?.getD 0), .bool ys.head?.isSome]) ∧ Below w.heap.size w w' := by
  refine (callsIn_wide (n := 4)).1 ?_
  refine callsIn_of_wp_marks Try.func58 rfl trivial ?_ rfl
  simp only [Try.ntmps58, List.size_toArray, List.length_cons, List.length_nil, Nat.reduceAdd, Nat.reduceSub, Array.replicate_succ, Array.replicate_zero, List.push_toArray, List.append_toArray, List.nil_append, List.cons_append]
  gi_wp2_with (refine ⟨trivial, ?_⟩; gi_at_call 63; refine (callsIn_wide.2 (values_any p _)).mono ?_; rintro e w' ⟨rfl, rfl⟩)
  have b0 := Boxed.new w 2 (.int .i64 0)
  have b1 := Boxed.new (w.alloc (.cells #[.int .i64 0] 2)) 4 (.bool false)
  have b2 := Boxed.new ((w.alloc (.cells #[.int .i64 0] 2)).alloc (.cells #[.bool false] 4)) 75 (.pointer p)
  simp only [World.size_alloc] at b1 b2
  have hB0 : Below w.heap.size w (((w.alloc (.cells #[.int .i64 0] 2)).alloc (.cells #[.bool false] 4)).alloc (.cells #[.pointer p] 75)) := (((Below.refl _ w).alloc (Nat.le_refl _) _).alloc (by simp) _).alloc (by simp; omega) _
  refine wpIn_rangeFunc_ownF rfl (by omega) (gf := 65) (lb := #[.pointer (some ⟨w.heap.size + 1 + 1, 0, none⟩)]) rfl trivial (enters_of Try.func65 (by kernel_rfl) rfl)
    (hR _ (w.heap.size + 1 + 1) hB0 b2) (fun h k => KeepR.trans h k) (fun W l o o' _ hl ho _ => KeepR.putObj W l o o' hl ho) (Below.refl _ _) (fun _ => rfl)
    (fun pre W => (Boxed W w.heap.size 2 (.int .i64 0) ∧ Boxed W (w.heap.size + 1) 4 (.bool false)) ∧ Below w.heap.size w W ∧ pre = [])
    (fun c pre W => (Boxed W w.heap.size 2 (.int .i64 (pre.head?.getD 0)) ∧ Boxed W (w.heap.size + 1) 4 (.bool true)) ∧ Below w.heap.size w W ∧ c = .ret ∧ pre ≠ [])
    ((OwnFrom.and (boxed_abides _ _ (fun _ => _) _) (boxed_abides _ _ (fun _ => _) _)).and (OwnFrom.and (ownFrom_below (Nat.le_refl _) (by simp; omega)) (fun _ _ _ _ h _ _ => h)))
    (fun c => (OwnFrom.and (boxed_abides _ _ (fun pre : List Int => .int .i64 (pre.head?.getD 0)) _) (boxed_abides _ _ (fun _ => _) _)).and (OwnFrom.and (ownFrom_below (Nat.le_refl _) (by simp; omega)) (fun _ _ _ _ h _ _ => h)))
    ⟨⟨(b0.alloc _).alloc _, b1.alloc _⟩, hB0, rfl⟩
    (fun x => { tmps := #[.pointer p, undef, .pointer (some ⟨w.heap.size, 0, none⟩), .pointer (some ⟨w.heap.size + 1, 0, none⟩), .int .i64 x, .pointer p, .func (.func 65) #[] #[.pointer (some ⟨w.heap.size + 1 + 1, 0, none⟩)], .int .i64 x, undef], defers := [] }) ?assign ?body ?done ?stop
  case assign =>
    intro l x W K hK
    gi_wp2
    simpa using hK
  case body =>
    rintro l pre x W ⟨⟨h0, h1⟩, hB, rfl⟩ hlt
    have c0 := h0.cell
    have f0 := h0.frozen
    have c1 := h1.cell
    have f1 := h1.frozen
    gi_wp2
    refine ⟨(KeepsOthers.setCell _ _ _).trans (KeepsOthers.setCell _ _ _), ⟨?_, ?_⟩, (hB.setCell (p := ⟨w.heap.size, 0, none⟩) (Nat.le_refl _) _).setCell (p := ⟨w.heap.size + 1, 0, none⟩) (by simp) _, rfl, by simp⟩
    · exact (h0.set _).kept (grownBy_setCell' _ _ _) (by simp)
    · exact (h1.kept (grownBy_setCell' W w.heap.size _) (by simp)).set _
  case done =>
    rintro D xs W hD hys ⟨⟨h0, h1⟩, hB, he⟩ hK
    have HE : Hid (ys = []) := Lib.hid (by rw [← show xs = ys from hys]; exact he)
    clear hys he
    have c0 := h0.cell
    have f0 := h0.frozen
    have c1 := h1.cell
    have f1 := h1.frozen
    gi_wp2
    refine front_end _ w _ D (by simp at hD; omega) (.int .i64 0) (.bool false) _ _ _ _ _ _ _ ((h0.set _).kept (grownBy_setCell' _ _ _) (by simp)) ((h1.kept (grownBy_setCell' W w.heap.size _) (by simp)).set _) ((hB.setCell (p := ⟨w.heap.size, 0, none⟩) (Nat.le_refl _) _).setCell (p := ⟨w.heap.size + 1, 0, none⟩) (by simp) _) ?_ (Lib.hid (by rw [HE.out]; rfl))
    exact ((KeepsOthers.setCell W ⟨w.heap.size, 0, none⟩ _).trans (KeepsOthers.setCell _ ⟨w.heap.size + 1, 0, none⟩ _)).same D _ hK rfl
  case stop =>
    rintro D c pre W hD hpre ⟨⟨h0, h1⟩, hB, rfl, hne⟩ hK
    have HE : Hid (ys.head? = pre.head? ∧ pre.head?.isSome = true) := Lib.hid (by
      cases pre with
      | nil => exact absurd rfl hne
      | cons x t => obtain ⟨r, hr⟩ := hpre; rw [← hr]; exact ⟨rfl, rfl⟩)
    clear hpre hne
    gi_wp2
    exact front_end _ w W D (by simp at hD; omega) _ _ _ _ _ _ _ _ _ h0 h1 hB hK (Lib.hid (by rw [HE.out.1, HE.out.2]))

theorem info64 : (Try.prog.info? 2).map (fun i => (i.zero, i.size, i.bytes)) = some (some (.int .i64 0), 1, 8) := by kernel_rfl
theorem owns_slice {w : World} {base : Nat} {e : TypeId} {size : Nat} {v : Value} {k : Nat} {xs : List Value} (h : w.ownsRow base e size v k xs) : ∃ a n c, v = .slice a n c := by
  rcases h.2 with ⟨rfl, _⟩ | ⟨g, cap, _, rfl, _⟩
  · exact ⟨_, _, _, rfl⟩
  · exact ⟨_, _, _, rfl⟩
theorem I64_snoc (xs : List Int) (x : Int) : I64 (xs ++ [x]) = I64 xs ++ [.int .i64 x] := by simp [I64]

theorem keepR_append {W w1 : World} {n₀ B : Nat} {v v' : Value} {k : Nat} {xs : List Value} {tmp : Obj} (hrow : W.ownsRow n₀ 2 1 v k xs) (hg : (W.alloc tmp).grownBy w1 v.ownBlock) {u : Value} (hb : Boxed w1 B 72 u) : KeepR W (w1.setCell ⟨B, 0, none⟩ v') := by
  refine ((KeepR.grown (World.grownBy_alloc W tmp none) (fun _ _ _ _ e => by cases e)).trans (KeepR.grown hg fun k' cs t z e hk => ?_)).trans (KeepR.grown (grownBy_setCell' w1 B v') fun k' cs t z e hk => ?_)
  · rcases (hrow.alloc tmp).2 with ⟨rfl, _⟩ | ⟨g, cap, cur, rfl, _, hgb, _⟩
    · simp [Value.ownBlock] at e
    · obtain rfl : g = k' := by simpa [Value.ownBlock] using e
      rw [hgb] at hk; cases hk; decide
  · cases e
    rw [show w1.heap[B]? = _ from hb] at hk; cases hk; decide

theorem front_ring {B m : Nat} {ys : List Int} (w : World) (hR : Rng w B m ys) :
    Calls Try.prog 58 #[.pointer (some ⟨B, 0, none⟩)] w fun e w' => e = .returned (.tuple #[.int .i64 (ys.head?.getD 0), .bool ys.head?.isSome]) ∧ Below w.heap.size w w' := front_of _ _ w (iter_ring hR)
theorem front_nil (w : World) :
    Calls Try.prog 58 #[.pointer none] w fun e w' => e = .returned (.tuple #[.int .i64 0, .bool false]) ∧ Below w.heap.size w w' := front_of _ _ w (iter_none w)
end Go.Proofs.Ytkpnkhakjgfgfaa.Rg
