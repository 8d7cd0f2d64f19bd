/-
  The walks of fifo.At and Has: a loop over the iterator, up to a label.
-/
import Derived.Test.YtfdinodcbeipcaaFFront
namespace Go.Proofs.Ytfdinodcbeipcaa
open Go.RowKit Go.Shelf

attribute [local go_sem] Oper.semAt_some

theorem ret_i {x y : Int} (h : x = y) : Ending.returned (.int .i64 x) = .returned (.int .i64 y) := by rw [h]
theorem ret_b {x y : Bool} (h : x = y) : Ending.returned (.bool x) = .returned (.bool y) := by rw [h]

set_option maxRecDepth 100000 in
set_option maxHeartbeats 2000000 in
theorem at_of (p : Option Addr) (ys : List Int) (hl : ys.length ≤ 32) (k : Int) (w : World) (hR : IterOf p ys w) :
    Calls Try.prog 43 #[.pointer p, .int .i64 k] w fun e w' => e = .returned (.int .i64 (atV ys k)) ∧ Below w.heap.size w w' := by
  refine (callsIn_wide (n := 4)).1 ?_
  refine callsIn_of_wp_marks Try.func43 rfl trivial ?_ rfl
  simp only [Try.ntmps43, List.size_toArray, List.length_cons, List.length_nil, Nat.reduceAdd, Nat.reduceSub, Array.replicate_succ, Array.replicate_zero, List.push_toArray, List.append_toArray, List.nil_append, List.cons_append]
  gi_wp2
  refine wpIn_wide.2 ?_
  go_step3
  go_wp2_with fail
  go_step3
  go_wp2_with fail
  refine (row_any p _).mono ?_
  rintro e w' ⟨rfl, rfl⟩
  have b0 := Boxed.new w 3 (.int .i64 k)
  have b1 := Boxed.new (w.alloc (.cells #[.int .i64 k] 3)) 3 (.int .i64 (-1))
  have b2 := Boxed.new ((w.alloc (.cells #[.int .i64 k] 3)).alloc (.cells #[.int .i64 (-1)] 3)) 3 (.int .i64 0)
  have b3 := Boxed.new (((w.alloc (.cells #[.int .i64 k] 3)).alloc (.cells #[.int .i64 (-1)] 3)).alloc (.cells #[.int .i64 0] 3)) 48 (.pointer p)
  simp only [World.size_alloc] at b1 b2 b3
  have hB0 : Below w.heap.size w ((((w.alloc (.cells #[.int .i64 k] 3)).alloc (.cells #[.int .i64 (-1)] 3)).alloc (.cells #[.int .i64 0] 3)).alloc (.cells #[.pointer p] 48)) := ((((Below.refl _ w).alloc (Nat.le_refl _) _).alloc (by simp) _).alloc (by simp; omega) _).alloc (by simp; omega) _
  go_wp2_with fail
  refine (wpIn_wide (n := 4)).1 ?_
  refine wpIn_rangeFunc_ownF rfl (by omega) (gf := 44) (lb := #[.pointer (some ⟨w.heap.size + 1 + 1 + 1, 0, none⟩)]) rfl trivial (enters_of Try.func44 (by kernel_rfl) rfl)
    (hR _ (w.heap.size + 1 + 1 + 1) hB0 b3) (fun h k => KeepR.trans h k) (fun W l o o' _ hl ho _ => KeepR.putObj W l o o' hl ho) (Below.refl _ _) (fun _ => rfl)
    (fun pre W => (Boxed W w.heap.size 3 (.int .i64 k) ∧ Boxed W (w.heap.size + 1) 3 (.int .i64 (-1)) ∧ Boxed W (w.heap.size + 1 + 1) 3 (.int .i64 (pre.length : Int))) ∧ Below w.heap.size w W ∧ Hid (k ∉ pre))
    (fun c pre W => (Boxed W w.heap.size 3 (.int .i64 k) ∧ Boxed W (w.heap.size + 1) 3 (.int .i64 (atV pre k)) ∧ Boxed W (w.heap.size + 1 + 1) 3 (.int .i64 ((pre.length : Int) - 1))) ∧ Below w.heap.size w W ∧ c = .exit 0 ∧ Hid (∃ q, pre = q ++ [k] ∧ k ∉ q))
    (OwnFrom.and (OwnFrom.and (boxed_abides _ _ (fun _ => _) _) (OwnFrom.and (boxed_abides _ _ (fun _ => _) _) (boxed_abides _ _ (fun pre : List Int => .int .i64 (pre.length : Int)) _))) (OwnFrom.and (ownFrom_below (Nat.le_refl _) (by simp; omega)) (fun _ _ _ _ h _ _ => h)))
    (fun c => OwnFrom.and (OwnFrom.and (boxed_abides _ _ (fun _ => _) _) (OwnFrom.and (boxed_abides _ _ (fun pre : List Int => .int .i64 (atV pre k)) _) (boxed_abides _ _ (fun pre : List Int => .int .i64 ((pre.length : Int) - 1)) _))) (OwnFrom.and (ownFrom_below (Nat.le_refl _) (by simp; omega)) (fun _ _ _ _ h _ _ => h)))
    ⟨⟨((b0.alloc _).alloc _).alloc _, (b1.alloc _).alloc _, b2.alloc _⟩, hB0, Lib.hid (by simp)⟩
    (fun x => { tmps := #[.pointer p, .int .i64 k, undef, .pointer (some ⟨w.heap.size, 0, none⟩), .int .i64 0, .pointer (some ⟨w.heap.size + 1, 0, none⟩), .pointer (some ⟨w.heap.size + 1 + 1, 0, none⟩), .int .i64 x, .pointer p, .func (.func 44) #[] #[.pointer (some ⟨w.heap.size + 1 + 1 + 1, 0, none⟩)], .int .i64 x, undef, undef, undef, undef, undef, undef, undef], defers := [] }) ?assign ?body ?done ?stop
  case assign =>
    intro l x W K hK
    gi_wp2
    simpa using hK
  case body =>
    rintro l pre x W ⟨⟨h0, h1, h2⟩, hB, HN⟩ hlt
    have c0 := h0.cell
    have c1 := h1.cell
    have f1 := h1.frozen
    have c2 := h2.cell
    have f2 := h2.frozen
    by_cases e : x = k
    · subst e
      have ee : (x == x) = true := by simp
      have HV : Hid ((pre.length : Int) = atV (pre ++ [x]) x) := Lib.hid (atV_first (k := pre.length) (by simp) (by simpa using HN.out)).symm
      have HW : Hid ((pre.length : Int) = ((pre ++ [x]).length : Int) - 1) := Lib.hid (by simp)
      gi_wp2
      refine ⟨KeepsOthers.setCell _ _ _, ⟨h0.kept (grownBy_setCell' _ _ _) (by simp), ?_, ?_⟩, hB.setCell (p := ⟨w.heap.size + 1, 0, none⟩) (by simp) _, rfl, Lib.hid ⟨pre, rfl, HN.out⟩⟩
      · rw [← HV.out]; exact h1.set _
      · rw [← HW.out]; exact h2.kept (grownBy_setCell' _ _ _) (by simp)
    · have ee : (x == k) = false := by simpa using e
      have HM : Hid (k ∉ pre ++ [x]) := Lib.hid (by simpa using ⟨HN.out, fun e' => e e'.symm⟩)
      have HW : Hid (((pre.length : Int) + 1) = ((pre ++ [x]).length : Int)) := Lib.hid (by simp)
      clear HN
      gi_wp2
      refine ⟨KeepsOthers.setCell _ _ _, ?_, ⟨h0.kept (grownBy_setCell' _ _ _) (by simp; omega), h1.kept (grownBy_setCell' _ _ _) (by simp), ?_⟩, hB.setCell (p := ⟨w.heap.size + 1 + 1, 0, none⟩) (by simp; omega) _, HM⟩
      · exact KeepR.grown (grownBy_setCell' W _ _) (fun k' cs t z e hk => by cases e; rw [show W.heap[w.heap.size + 1 + 1]? = _ from h2] at hk; cases hk; decide)
      · rw [← HW.out]; exact h2.set _
  case done =>
    rintro D xs W hD hys ⟨⟨h0, h1, h2⟩, hB, HN⟩ hK
    have HE : Hid ((-1 : Int) = atV ys k) := Lib.hid (by rw [← show xs = ys from hys, atV_not HN.out])
    clear hys HN
    have c0 := h0.cell
    have c1 := h1.cell
    have c2 := h2.cell
    go_wp2_with fail
    rw [Exit.noGoto_ret]
    refine ⟨by simp, .inl ⟨_, _, rfl, run_takeDeferred hK, ?_⟩⟩
    exact ⟨_, results_tmp rfl _ _ _, by rw [← HE.out]; rfl, hB.trans (belowK_b (w := w) (Nat.le_refl _) W D _ _ (by simp at hD; omega) hK rfl rfl)⟩
  case stop =>
    rintro D c pre W hD hpre ⟨⟨h0, h1, h2⟩, hB, rfl, HA⟩ hK
    have HE : Hid (atV pre k = atV ys k) := Lib.hid (by
      obtain ⟨q, rfl, hq⟩ := HA.out
      obtain ⟨r, rfl⟩ := hpre
      rw [atV_first (k := q.length) (by simp) (by simpa using hq), atV_first (k := q.length) (by simp) (by simpa using hq)])
    clear hpre HA
    have c0 := h0.cell
    have c1 := h1.cell
    have c2 := h2.cell
    gi_wp2
    go_wp2_with fail
    rw [Exit.noGoto_ret]
    refine ⟨by simp, .inl ⟨_, _, rfl, run_takeDeferred hK, ?_⟩⟩
    exact ⟨_, results_tmp rfl _ _ _, by rw [← HE.out]; rfl, hB.trans (belowK_b (w := w) (Nat.le_refl _) W D _ _ (by simp at hD; omega) hK rfl rfl)⟩

theorem at_any {B m : Nat} {ys : List Int} (k : Int) (w : World) (h : Fif w B m ys) :
    Calls Try.prog 43 #[.pointer (some ⟨B, 0, none⟩), .int .i64 k] w fun e w' => e = .returned (.int .i64 (atV ys k)) ∧ Below w.heap.size w w' := at_of _ _ (by have := h.le; have := h.most; omega) k w (iter_row h)
theorem at_nil (k : Int) (w : World) :
    Calls Try.prog 43 #[.pointer none, .int .i64 k] w fun e w' => e = .returned (.int .i64 (-1)) ∧ Below w.heap.size w w' := at_of _ [] (by simp) k w (iter_none w)
theorem has_any {B m : Nat} {ys : List Int} (k : Int) (w : World) (h : Fif w B m ys) :
    Calls Try.prog 39 #[.pointer (some ⟨B, 0, none⟩), .int .i64 k] w fun e w' => e = .returned (.bool (decide (k ∈ ys))) ∧ Below w.heap.size w w' := by
  have HE := Lib.hid (at_has ys k)
  go_enter Try.func39, Try.ntmps39
  go_wp2_with fail
  refine (at_any k _ h).mono ?_
  rintro e w' ⟨rfl, hb⟩
  generalize atV ys k = a at HE
  go_wp2_with fail
  go_ret
  exact ⟨ret_b HE.out, hb⟩
theorem has_nil (k : Int) (w : World) :
    Calls Try.prog 39 #[.pointer none, .int .i64 k] w fun e w' => e = .returned (.bool false) ∧ Below w.heap.size w w' := by
  go_enter Try.func39, Try.ntmps39
  go_wp2_with fail
  refine (at_nil k _).mono ?_
  rintro e w' ⟨rfl, hb⟩
  go_wp2_with fail
  go_ret
  exact ⟨rfl, hb⟩
end Go.Proofs.Ytfdinodcbeipcaa
