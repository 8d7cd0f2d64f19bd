/-
  The walk of order.Pick: a loop over the iterator, left in its first round.
-/
import Derived.Test.YtamkmmpockmpfaaOIter
namespace Go.Proofs.Ytamkmmpockmpfaa.Od
open Go.RowKit Go.Shelf

attribute [local go_sem] Oper.semAt_some

theorem boxed_abides {β : Type} (B : Nat) (t : TypeId) (f : β → Value) (m : Nat) : OwnFrom m (fun (s : β) W => Boxed W B t (f s)) :=
  Own.from (fun sx A W' row hs hg hr => hs.kept hg (fun e' => by obtain ⟨o, ho, hc⟩ := hr _ e'.symm; rw [show A.heap[B]? = _ from hs] at ho; cases ho; cases hc)) m

theorem pick_end (F0 : Value) (w W : World) (D : Nat) (hD : w.heap.size ≤ D) (v b t0 t1 t2 t3 t6 t7 t8 t9 t10 t11 : Value) (h0 : Boxed W w.heap.size 3 v) (h1 : Boxed W (w.heap.size + 1) 4 b) (hB : Below w.heap.size w W) (hK : W.heap[D]? = some (.deferred (some [])))
    (HE : Hid (Value.tuple #[v, b] = F0)) :
    bodyPostM Fence.wide 4 Try.prog Try.f21 (fun e w' => e = .returned F0 ∧ Below w.heap.size w w') .ret
      { tmps := #[t0, t1, t2, t3, .pointer (some ⟨w.heap.size, 0, none⟩), .pointer (some ⟨w.heap.size + 1, 0, none⟩), t6, t7, t8, t9, t10, t11], defers := [{ target := Target.collected D, args := #[] }] } W := by
  refine ⟨by simp, .inl ⟨_, _, rfl, run_takeDeferred hK, ?_⟩⟩
  have c0 := cell_kept h0.cell (grownBy_putObj' _ D (.deferred none)) (fun r e => by cases e; exact ⟨_, hK, rfl⟩)
  have c1 := cell_kept h1.cell (grownBy_putObj' _ D (.deferred none)) (fun r e => by cases e; exact ⟨_, hK, rfl⟩)
  refine ⟨.tuple #[v, b], ?_, by rw [HE.out], hB.trans (belowK_b (w := w) (Nat.le_refl _) _ D _ _ (by omega) hK rfl rfl)⟩
  simp [results, Try.f21, go_sem, c0, c1]

set_option maxRecDepth 100000 in
set_option maxHeartbeats 400000 in
theorem pick_of (p : Option Addr) (s : Nat) (ys : List Int) (w : World) (hR : IterOf p s ys w) :
    Calls Try.prog 21 #[.pointer p, .int .u64 (s : Int)] w fun e w' => e = .returned (.tuple #[.int .i64 (ys.head?.getD 0), .bool ys.head?.isSome]) ∧ Below w.heap.size w w' := by
  refine (callsIn_wide (n := 4)).1 ?_
  refine callsIn_of_wp_marks Try.func21 rfl trivial ?_ rfl
  simp only [Try.ntmps21, List.size_toArray, List.length_cons, List.length_nil, Nat.reduceAdd, Nat.reduceSub, Array.replicate_succ, Array.replicate_zero, List.push_toArray, List.append_toArray, List.nil_append, List.cons_append]
  gi_wp2_with (refine ⟨trivial, ?_⟩; gi_at_call 42; refine (callsIn_wide.2 (among_any p s _)).mono ?_; rintro e w' ⟨rfl, rfl⟩)
  have b0 := Boxed.new w 3 (.int .i64 0)
  have b1 := Boxed.new (w.alloc (.cells #[.int .i64 0] 3)) 4 (.bool false)
  have b2 := Boxed.new ((w.alloc (.cells #[.int .i64 0] 3)).alloc (.cells #[.bool false] 4)) 69 (.pointer p)
  have b3 := Boxed.new (((w.alloc (.cells #[.int .i64 0] 3)).alloc (.cells #[.bool false] 4)).alloc (.cells #[.pointer p] 69)) 45 (.int .u64 (s : Int))
  simp only [World.size_alloc] at b1 b2 b3
  have hB0 : Below w.heap.size w ((((w.alloc (.cells #[.int .i64 0] 3)).alloc (.cells #[.bool false] 4)).alloc (.cells #[.pointer p] 69)).alloc (.cells #[.int .u64 (s : Int)] 45)) := ((((Below.refl _ w).alloc (Nat.le_refl _) _).alloc (by simp) _).alloc (by simp; omega) _).alloc (by simp; omega) _
  refine wpIn_rangeFunc_ownF rfl (by omega) (gf := 53) (lb := #[.pointer (some ⟨w.heap.size + 1 + 1, 0, none⟩), .pointer (some ⟨w.heap.size + 1 + 1 + 1, 0, none⟩)]) rfl trivial (enters_of Try.func53 (by kernel_rfl) rfl)
    (hR _ (w.heap.size + 1 + 1) (w.heap.size + 1 + 1 + 1) hB0 (b2.alloc _) b3) (fun h k => KeepO.trans h k) (fun W l o o' _ hl ho _ => KeepO.putObj W l o o' hl ho) (Below.refl _ _) (fun _ => rfl)
    (fun pre W => (Boxed W w.heap.size 3 (.int .i64 0) ∧ Boxed W (w.heap.size + 1) 4 (.bool false)) ∧ Below w.heap.size w W ∧ pre = [])
    (fun c pre W => (Boxed W w.heap.size 3 (.int .i64 (pre.head?.getD 0)) ∧ Boxed W (w.heap.size + 1) 4 (.bool true)) ∧ Below w.heap.size w W ∧ c = .ret ∧ pre ≠ [])
    ((OwnFrom.and (boxed_abides _ _ (fun _ => _) _) (boxed_abides _ _ (fun _ => _) _)).and (OwnFrom.and (ownFrom_below (Nat.le_refl _) (by simp; omega)) (fun _ _ _ _ h _ _ => h)))
    (fun c => (OwnFrom.and (boxed_abides _ _ (fun pre : List Int => .int .i64 (pre.head?.getD 0)) _) (boxed_abides _ _ (fun _ => _) _)).and (OwnFrom.and (ownFrom_below (Nat.le_refl _) (by simp; omega)) (fun _ _ _ _ h _ _ => h)))
    ⟨⟨((b0.alloc _).alloc _).alloc _, (b1.alloc _).alloc _⟩, hB0, rfl⟩
    (fun x => { tmps := #[.pointer p, .int .u64 (s : Int), undef, undef, .pointer (some ⟨w.heap.size, 0, none⟩), .pointer (some ⟨w.heap.size + 1, 0, none⟩), .int .i64 x, .pointer p, .int .u64 (s : Int), .func (.func 53) #[] #[.pointer (some ⟨w.heap.size + 1 + 1, 0, none⟩), .pointer (some ⟨w.heap.size + 1 + 1 + 1, 0, none⟩)], .int .i64 x, undef], defers := [] }) ?assign ?body ?done ?stop
  case assign =>
    intro l x W K hK
    gi_wp2
    simpa using hK
  case body =>
    rintro l pre x W ⟨⟨h0, h1⟩, hB, rfl⟩ hlt
    have c0 := h0.cell
    have f0 := h0.frozen
    have c1 := h1.cell
    have f1 := h1.frozen
    gi_wp2
    refine ⟨(KeepsOthers.setCell _ _ _).trans (KeepsOthers.setCell _ _ _), ⟨?_, ?_⟩, (hB.setCell (p := ⟨w.heap.size, 0, none⟩) (Nat.le_refl _) _).setCell (p := ⟨w.heap.size + 1, 0, none⟩) (by simp) _, rfl, by simp⟩
    · exact (h0.set _).kept (grownBy_setCell' _ _ _) (by simp)
    · exact (h1.kept (grownBy_setCell' W w.heap.size _) (by simp)).set _
  case done =>
    rintro D xs W hD hys ⟨⟨h0, h1⟩, hB, he⟩ hK
    have HE : Hid (ys = []) := Lib.hid (by rw [← show xs = ys from hys]; exact he)
    clear hys he
    have c0 := h0.cell
    have f0 := h0.frozen
    have c1 := h1.cell
    have f1 := h1.frozen
    gi_wp2
    refine pick_end _ w _ D (by simp at hD; omega) (.int .i64 0) (.bool false) _ _ _ _ _ _ _ _ _ _ ((h0.set _).kept (grownBy_setCell' _ _ _) (by simp)) ((h1.kept (grownBy_setCell' W w.heap.size _) (by simp)).set _) ((hB.setCell (p := ⟨w.heap.size, 0, none⟩) (Nat.le_refl _) _).setCell (p := ⟨w.heap.size + 1, 0, none⟩) (by simp) _) ?_ (Lib.hid (by rw [HE.out]; rfl))
    exact ((KeepsOthers.setCell W ⟨w.heap.size, 0, none⟩ _).trans (KeepsOthers.setCell _ ⟨w.heap.size + 1, 0, none⟩ _)).same D _ hK rfl
  case stop =>
    rintro D c pre W hD hpre ⟨⟨h0, h1⟩, hB, rfl, hne⟩ hK
    have HE : Hid (ys.head? = pre.head? ∧ pre.head?.isSome = true) := Lib.hid (by
      cases pre with
      | nil => exact absurd rfl hne
      | cons x t => obtain ⟨r, hr⟩ := hpre; rw [← hr]; exact ⟨rfl, rfl⟩)
    clear hpre hne
    gi_wp2
    exact pick_end _ w W D (by simp at hD; omega) _ _ _ _ _ _ _ _ _ _ _ _ h0 h1 hB hK (Lib.hid (by rw [HE.out.1, HE.out.2]))

theorem pick_any {B n s : Nat} {ys : List Int} (w : World) (hs : s < 18446744073709551616) (hR : Ord w B n ys) :
    Calls Try.prog 21 #[.pointer (some ⟨B, 0, none⟩), .int .u64 (s : Int)] w fun e w' => e = .returned (.tuple #[.int .i64 (pickV s ys), .bool (pickB s ys)]) ∧ Below w.heap.size w w' := pick_of _ _ _ w (iter_row hs hR)
theorem pick_nil (s : Nat) (w : World) :
    Calls Try.prog 21 #[.pointer none, .int .u64 (s : Int)] w fun e w' => e = .returned (.tuple #[.int .i64 0, .bool false]) ∧ Below w.heap.size w w' := pick_of _ _ _ w (iter_none s w)
end Go.Proofs.Ytamkmmpockmpfaa.Od
