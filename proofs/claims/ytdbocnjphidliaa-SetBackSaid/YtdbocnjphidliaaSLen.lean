/-
  The walks of set.Len, set.In, set.Least: loops over the iterator.
-/
import Derived.Test.YtdbocnjphidliaaSRise
namespace Go.Proofs.Ytdbocnjphidliaa
open Go.RowKit Go.Shelf SetM

attribute [local go_sem] Oper.semAt_some

set_option maxRecDepth 100000 in
set_option maxHeartbeats 2000000 in
theorem len_any (s : Nat) (hs : s < 18446744073709551616) (w : World) :
    Calls Try.prog 14 #[.int .u64 (s : Int)] w fun e w' => e = .returned (.int .i64 ((nums s).length : Nat)) ∧ Below w.heap.size w w' := by
  refine (callsIn_wide (n := 4)).1 ?_
  refine callsIn_of_wp_marks Try.func14 rfl trivial ?_ rfl
  simp only [Try.ntmps14, List.size_toArray, List.length_cons, List.length_nil, Nat.reduceAdd, Nat.reduceSub, Array.replicate_succ, Array.replicate_zero, List.push_toArray, List.append_toArray, List.nil_append, List.cons_append]
  gi_wp2_with (refine ⟨trivial, ?_⟩; gi_at_call 21; refine (rising_in 3 s _).mono ?_; rintro e w' ⟨rfl, rfl⟩)
  have bO := Boxed.new w 3 (.int .i64 0)
  have bN := Boxed.new (w.alloc (.cells #[.int .i64 0] 3)) 23 (.int .u64 (s : Int))
  rw [World.size_alloc] at bN
  have hB0 : Below w.heap.size w ((w.alloc (.cells #[.int .i64 0] 3)).alloc (.cells #[.int .u64 (s : Int)] 23)) := ((Below.refl _ w).alloc (Nat.le_refl _) _).alloc (by simp) _
  refine wpIn_rangeFunc_ownF rfl (by omega) (gf := 24) (lb := #[.pointer (some ⟨w.heap.size + 1, 0, none⟩)]) rfl trivial (enters_of Try.func24 (by kernel_rfl) rfl)
    (rise_stops 3 (by omega) (w.heap.size + 1) s hs _ (by simp) bN.cell) (fun _ _ => trivial) (fun _ _ _ _ _ _ _ _ => trivial) (Below.refl _ _) (fun _ => rfl)
    (fun pre W => (Boxed W w.heap.size 3 (.int .i64 (pre.length : Nat))) ∧ Below w.heap.size w W)
    (fun _ _ _ => False)
    (OwnFrom.and (Own.from (fun sx A B row hs hg hr => hs.kept hg (fun e' => by obtain ⟨o, ho, hc⟩ := hr _ e'.symm; rw [show A.heap[w.heap.size]? = _ from hs] at ho; cases ho; cases hc)) _) (ownFrom_below (Nat.le_refl _) (by simp; omega)))
    (fun _ _ _ _ _ hs _ _ => hs)
    ⟨bO.alloc _, hB0⟩
    (fun x => { tmps := #[.int .u64 (s : Int), undef, .pointer (some ⟨w.heap.size, 0, none⟩), .int .u64 (s : Int), .func (.func 24) #[] #[.pointer (some ⟨w.heap.size + 1, 0, none⟩)], .int .i64 (x.val : Int), undef, undef, undef], defers := [] }) ?assign ?body ?done ?stop
  case assign =>
    intro l x W K hK
    gi_wp2
    simpa using hK
  case body =>
    rintro l pre x W ⟨hv, hB⟩ hlt
    have hc := hv.cell
    have hf := hv.frozen
    have hlt' : (pre.length : Int) + 1 ≤ 65 := by omega
    gi_wp2
    refine ⟨KeepsOthers.setCell _ _ _, trivial, ?_, hB.setCell (p := ⟨w.heap.size, 0, none⟩) (Nat.le_refl _) _⟩
    have := hv.set (.int .i64 ((pre ++ [x]).length : Nat))
    simpa using this
  case done =>
    rintro D ys W hD hys ⟨hv, hB⟩ hK
    have HL : Hid ((ys.length : Int) = ((nums s).length : Nat)) := Lib.hid (by rw [show ys = nums s from hys])
    clear hys
    have hc := hv.cell
    have hf := hv.frozen
    gi_wp2
    have hK' := (KeepsOthers.setCell W ⟨w.heap.size, 0, none⟩ (.int .i64 (ys.length : Nat))).same D _ hK rfl
    refine ⟨by simp, .inl ⟨_, _, rfl, run_takeDeferred hK', ?_⟩⟩
    have hc5 := cell_kept (hv.set (.int .i64 (ys.length : Nat))).cell (grownBy_putObj' _ D (.deferred none)) (fun r e => by cases e; exact ⟨_, hK', rfl⟩)
    refine ⟨.int .i64 (ys.length : Nat), ?_, by rw [HL.out], (hB.setCell (p := ⟨w.heap.size, 0, none⟩) (Nat.le_refl _) _).trans (belowK_b (w := w) (Nat.le_refl _) _ D _ _ (by simp at hD; omega) hK' rfl rfl)⟩
    simp [results, Try.f14, go_sem, hc5]
  case stop =>
    rintro D c pre W _ _ h _
    exact h.elim

theorem boxed_abides {β : Type} (B : Nat) (t : TypeId) (f : β → Value) (m : Nat) : OwnFrom m (fun (s : β) W => Boxed W B t (f s)) :=
  Own.from (fun sx A W' row hs hg hr => hs.kept hg (fun e' => by obtain ⟨o, ho, hc⟩ := hr _ e'.symm; rw [show A.heap[B]? = _ from hs] at ho; cases ho; cases hc)) m

theorem rising_any (s : Nat) (w : World) :
    Calls Try.prog 21 #[.int .u64 (s : Int)] w fun e w' => e = .returned (.func (.func 24) #[] #[.pointer (some ⟨w.heap.size, 0, none⟩)]) ∧ w' = w.alloc (.cells #[.int .u64 (s : Int)] 23) :=
  (callsIn_wide (n := 4)).1 (rising_in 4 s w)

theorem least_end (s : Nat) (w W : World) (D : Nat) (hD : w.heap.size + 1 + 1 + 1 ≤ D) (v b t0 t1 t4 t5 t6 t7 t8 t9 t10 : Value) (h0 : Boxed W w.heap.size 3 v) (h1 : Boxed W (w.heap.size + 1) 4 b) (hB : Below w.heap.size w W) (hK : W.heap[D]? = some (.deferred (some [])))
    (W' : World) (hW' : W' = ((W.setCell ⟨w.heap.size, 0, none⟩ v).setCell ⟨w.heap.size + 1, 0, none⟩ b).drew)
    (HE : Hid ((#[v, b] : Array Value) = #[.int .i64 ((((nums s).head?.map fun k => k.val).getD 0 : Nat) : Int), .bool (nums s).head?.isSome])) :
    bodyPostM Fence.wide 4 Try.prog Try.f6 (fun e w' => e = .returned (.tuple #[.int .i64 ((((nums s).head?.map fun k => k.val).getD 0 : Nat) : Int), .bool (nums s).head?.isSome]) ∧ Below w.heap.size w w') .ret
      { tmps := #[t0, t1, .pointer (some ⟨w.heap.size, 0, none⟩), .pointer (some ⟨w.heap.size + 1, 0, none⟩), t4, t5, t6, t7, t8, t9, t10], defers := [{ target := Target.collected D, args := #[] }] } W' := by
  subst hW'
  have hK' := ((KeepsOthers.setCell W ⟨w.heap.size, 0, none⟩ v).trans (KeepsOthers.setCell _ ⟨w.heap.size + 1, 0, none⟩ b)).same D _ hK rfl
  have hK2 : ((W.setCell ⟨w.heap.size, 0, none⟩ v).setCell ⟨w.heap.size + 1, 0, none⟩ b).drew.heap[D]? = some (.deferred (some [])) := hK'
  have g0' : Boxed ((W.setCell ⟨w.heap.size, 0, none⟩ v).setCell ⟨w.heap.size + 1, 0, none⟩ b) w.heap.size 3 v := (h0.set v).kept (grownBy_setCell' _ _ _) (by simp)
  have g0 : Boxed ((W.setCell ⟨w.heap.size, 0, none⟩ v).setCell ⟨w.heap.size + 1, 0, none⟩ b).drew w.heap.size 3 v := g0'
  have g1 : Boxed ((W.setCell ⟨w.heap.size, 0, none⟩ v).setCell ⟨w.heap.size + 1, 0, none⟩ b).drew (w.heap.size + 1) 4 b := (h1.kept (grownBy_setCell' W w.heap.size v) (by simp)).set b
  have gB : Below w.heap.size w ((W.setCell ⟨w.heap.size, 0, none⟩ v).setCell ⟨w.heap.size + 1, 0, none⟩ b).drew := ((hB.setCell (p := ⟨w.heap.size, 0, none⟩) (Nat.le_refl _) v).setCell (p := ⟨w.heap.size + 1, 0, none⟩) (by simp) b).drew
  generalize ((W.setCell ⟨w.heap.size, 0, none⟩ v).setCell ⟨w.heap.size + 1, 0, none⟩ b).drew = W1 at hK2 g0 g1 gB ⊢
  refine ⟨by simp, .inl ⟨_, _, rfl, run_takeDeferred hK2, ?_⟩⟩
  have c0 := cell_kept g0.cell (grownBy_putObj' _ D (.deferred none)) (fun r e => by cases e; exact ⟨_, hK2, rfl⟩)
  have c1 := cell_kept g1.cell (grownBy_putObj' _ D (.deferred none)) (fun r e => by cases e; exact ⟨_, hK2, rfl⟩)
  refine ⟨.tuple #[v, b], ?_, by rw [HE.out], gB.trans (belowK_b (w := w) (Nat.le_refl _) _ D _ _ (by omega) hK2 rfl rfl)⟩
  simp [results, Try.f6, go_sem, c0, c1]

set_option maxRecDepth 100000 in
set_option maxHeartbeats 2000000 in
theorem least_any (s : Nat) (hs : s < 18446744073709551616) (w : World) :
    Calls Try.prog 6 #[.int .u64 (s : Int)] w fun e w' => e = .returned (.tuple #[.int .i64 ((((nums s).head?.map fun k => k.val).getD 0 : Nat) : Int), .bool (nums s).head?.isSome]) ∧ Below w.heap.size w w' := by
  refine (callsIn_wide (n := 4)).1 ?_
  refine callsIn_of_wp_marks Try.func6 rfl trivial ?_ rfl
  simp only [Try.ntmps6, List.size_toArray, List.length_cons, List.length_nil, Nat.reduceAdd, Nat.reduceSub, Array.replicate_succ, Array.replicate_zero, List.push_toArray, List.append_toArray, List.nil_append, List.cons_append]
  gi_wp2
  refine wpIn_wide.2 ?_
  go_step3
  go_wp2_with fail
  go_step3
  go_wp2_with fail
  refine (rising_any s _).mono ?_
  rintro e w' ⟨rfl, rfl⟩
  have b0 := Boxed.new w 3 (.int .i64 0)
  have b1 := Boxed.new (w.alloc (.cells #[.int .i64 0] 3)) 4 (.bool false)
  have b2 := Boxed.new ((w.alloc (.cells #[.int .i64 0] 3)).alloc (.cells #[.bool false] 4)) 23 (.int .u64 (s : Int))
  simp only [World.size_alloc] at b1 b2
  have hB0 : Below w.heap.size w (((w.alloc (.cells #[.int .i64 0] 3)).alloc (.cells #[.bool false] 4)).alloc (.cells #[.int .u64 (s : Int)] 23)) := (((Below.refl _ w).alloc (Nat.le_refl _) _).alloc (by simp) _).alloc (by simp; omega) _
  go_wp2_with fail
  refine (wpIn_wide (n := 4)).1 ?_
  refine wpIn_rangeFunc_ownF rfl (by omega) (gf := 24) (lb := #[.pointer (some ⟨w.heap.size + 1 + 1, 0, none⟩)]) rfl trivial (enters_of Try.func24 (by kernel_rfl) rfl)
    (rise_stops 3 (by omega) (w.heap.size + 1 + 1) s hs _ (by simp) b2.cell) (fun _ _ => trivial) (fun _ _ _ _ _ _ _ _ => trivial) (Below.refl _ _) (fun _ => rfl)
    (fun pre W => (Boxed W w.heap.size 3 (.int .i64 0) ∧ Boxed W (w.heap.size + 1) 4 (.bool false)) ∧ Below w.heap.size w W ∧ pre = [])
    (fun c pre W => (Boxed W w.heap.size 3 (.int .i64 (((pre.head?.map fun k => k.val).getD 0 : Nat) : Int)) ∧ Boxed W (w.heap.size + 1) 4 (.bool true)) ∧ Below w.heap.size w W ∧ c = .exit 0 ∧ pre ≠ [])
    ((OwnFrom.and (boxed_abides _ _ (fun _ => _) _) (boxed_abides _ _ (fun _ => _) _)).and (OwnFrom.and (ownFrom_below (Nat.le_refl _) (by simp; omega)) (fun _ _ _ _ h _ _ => h)))
    (fun c => (OwnFrom.and (boxed_abides _ _ (fun pre : List (Fin 64) => .int .i64 (((pre.head?.map fun k => k.val).getD 0 : Nat) : Int)) _) (boxed_abides _ _ (fun _ => _) _)).and (OwnFrom.and (ownFrom_below (Nat.le_refl _) (by simp; omega)) (fun _ _ _ _ h _ _ => h)))
    ⟨⟨(b0.alloc _).alloc _, b1.alloc _⟩, hB0, rfl⟩
    (fun x => { tmps := #[.int .u64 (s : Int), undef, .pointer (some ⟨w.heap.size, 0, none⟩), .pointer (some ⟨w.heap.size + 1, 0, none⟩), .int .i64 (x.val : Int), .int .u64 (s : Int), .func (.func 24) #[] #[.pointer (some ⟨w.heap.size + 1 + 1, 0, none⟩)], .int .i64 (x.val : Int), undef, undef, undef], defers := [] }) ?assign ?body ?done ?stop
  case assign =>
    intro l x W K hK
    gi_wp2
    simpa using hK
  case body =>
    rintro l pre x W ⟨⟨h0, h1⟩, hB, rfl⟩ hlt
    have c0 := h0.cell
    have f0 := h0.frozen
    have c1 := h1.cell
    have f1 := h1.frozen
    gi_wp2
    refine ⟨(KeepsOthers.setCell _ _ _).trans (KeepsOthers.setCell _ _ _), ⟨?_, ?_⟩, (hB.setCell (p := ⟨w.heap.size, 0, none⟩) (Nat.le_refl _) _).setCell (p := ⟨w.heap.size + 1, 0, none⟩) (by simp) _, rfl, by simp⟩
    · exact (h0.set _).kept (grownBy_setCell' _ _ _) (by simp)
    · exact (h1.kept (grownBy_setCell' W w.heap.size _) (by simp)).set _
  case done =>
    rintro D ys W hD hys ⟨⟨h0, h1⟩, hB, he⟩ hK
    have HE : Hid (nums s = []) := Lib.hid (by rw [← show ys = nums s from hys]; exact he)
    clear hys he
    have c0 := h0.cell
    have f0 := h0.frozen
    have c1 := h1.cell
    have f1 := h1.frozen
    go_wp2_with fail
    go_region
    go_wp2_with fail
    rw [Exit.noGoto_ret]
    exact least_end s w W D (by simp at hD; omega) (.int .i64 0) (.bool false) _ _ _ _ _ _ _ _ _ h0 h1 hB hK _ rfl (Lib.hid (by rw [HE.out]; rfl))
  case stop =>
    rintro D c pre W hD hpre ⟨⟨h0, h1⟩, hB, rfl, hne⟩ hK
    obtain ⟨v, hv⟩ : ∃ v : Int, v = (((pre.head?.map fun k => k.val).getD 0 : Nat) : Int) := ⟨_, rfl⟩
    rw [← hv] at h0
    have HV := Lib.hid hv
    clear hv
    have HE : Hid ((nums s).head? = pre.head? ∧ pre.head?.isSome = true) := Lib.hid (by
      cases pre with
      | nil => exact absurd rfl hne
      | cons x t => obtain ⟨r, hr⟩ := hpre; rw [← hr]; exact ⟨rfl, rfl⟩)
    have c0 := h0.cell
    have f0 := h0.frozen
    have c1 := h1.cell
    have f1 := h1.frozen
    clear hpre hne
    gi_wp2
    go_wp2_with fail
    go_region
    go_wp2_with fail
    rw [Exit.noGoto_ret]
    exact least_end s w W D (by simp at hD; omega) (.int .i64 v) (.bool true) _ _ _ _ _ _ _ _ _ h0 h1 hB hK _ rfl (Lib.hid (by rw [HE.out.1, HV.out, HE.out.2]))

set_option maxRecDepth 100000 in
set_option maxHeartbeats 2000000 in
theorem in_any (s b : Nat) (hs : s < 18446744073709551616) (hb : b < 18446744073709551616) (w : World) :
    Calls Try.prog 17 #[.int .u64 (s : Int), .int .u64 (b : Int)] w fun e w' => e = .returned (.bool (inS s b)) ∧ Below w.heap.size w w' := by
  refine (callsIn_wide (n := 4)).1 ?_
  refine callsIn_of_wp_marks Try.func17 rfl trivial ?_ rfl
  simp only [Try.ntmps17, List.size_toArray, List.length_cons, List.length_nil, Nat.reduceAdd, Nat.reduceSub, Array.replicate_succ, Array.replicate_zero, List.push_toArray, List.append_toArray, List.nil_append, List.cons_append]
  gi_wp2
  refine wpIn_wide.2 ?_
  go_step3
  go_wp2_with fail
  go_step3
  go_wp2_with fail
  refine (rising_any s _).mono ?_
  rintro e w' ⟨rfl, rfl⟩
  have b0 := Boxed.new w 23 (.int .u64 (b : Int))
  have b1 := Boxed.new (w.alloc (.cells #[.int .u64 (b : Int)] 23)) 4 (.bool true)
  have b2 := Boxed.new ((w.alloc (.cells #[.int .u64 (b : Int)] 23)).alloc (.cells #[.bool true] 4)) 23 (.int .u64 (s : Int))
  simp only [World.size_alloc] at b1 b2
  have hB0 : Below w.heap.size w (((w.alloc (.cells #[.int .u64 (b : Int)] 23)).alloc (.cells #[.bool true] 4)).alloc (.cells #[.int .u64 (s : Int)] 23)) := (((Below.refl _ w).alloc (Nat.le_refl _) _).alloc (by simp) _).alloc (by simp; omega) _
  go_wp2_with fail
  refine (wpIn_wide (n := 4)).1 ?_
  refine wpIn_rangeFunc_ownF rfl (by omega) (gf := 24) (lb := #[.pointer (some ⟨w.heap.size + 1 + 1, 0, none⟩)]) rfl trivial (enters_of Try.func24 (by kernel_rfl) rfl)
    (rise_stops 3 (by omega) (w.heap.size + 1 + 1) s hs _ (by simp) b2.cell) (fun _ _ => trivial) (fun _ _ _ _ _ _ _ _ => trivial) (Below.refl _ _) (fun _ => rfl)
    (fun pre W => (Boxed W w.heap.size 23 (.int .u64 (b : Int)) ∧ Boxed W (w.heap.size + 1) 4 (.bool true)) ∧ Below w.heap.size w W ∧ Hid (∀ x ∈ pre, b.testBit x.val = true))
    (fun c pre W => (Boxed W w.heap.size 23 (.int .u64 (b : Int)) ∧ Boxed W (w.heap.size + 1) 4 (.bool false)) ∧ Below w.heap.size w W ∧ c = .exit 0 ∧ Hid (∃ x ∈ pre, b.testBit x.val = false))
    ((OwnFrom.and (boxed_abides _ _ (fun _ => _) _) (boxed_abides _ _ (fun _ => _) _)).and (OwnFrom.and (ownFrom_below (Nat.le_refl _) (by simp; omega)) (fun _ _ _ _ h _ _ => h)))
    (fun c => (OwnFrom.and (boxed_abides _ _ (fun _ => _) _) (boxed_abides _ _ (fun _ => _) _)).and (OwnFrom.and (ownFrom_below (Nat.le_refl _) (by simp; omega)) (fun _ _ _ _ h _ _ => h)))
    ⟨⟨(b0.alloc _).alloc _, b1.alloc _⟩, hB0, Lib.hid (fun x hx => by cases hx)⟩
    (fun x => { tmps := #[.int .u64 (s : Int), .int .u64 (b : Int), undef, .pointer (some ⟨w.heap.size, 0, none⟩), .bool false, .pointer (some ⟨w.heap.size + 1, 0, none⟩), .int .i64 (x.val : Int), .int .u64 (s : Int), .func (.func 24) #[] #[.pointer (some ⟨w.heap.size + 1 + 1, 0, none⟩)], .int .i64 (x.val : Int), undef, undef, undef, undef, undef, undef], defers := [] }) ?assign ?body ?done ?stop
  case assign =>
    intro l x W K hK
    gi_wp2
    simpa using hK
  case body =>
    rintro l pre x W ⟨⟨h0, h1⟩, hB, HA⟩ hlt
    have c0 := h0.cell
    have f0 := h0.frozen
    have c1 := h1.cell
    have f1 := h1.frozen
    have hx64 := x.isLt
    have HX := Lib.hid (has_val b x)
    have hge : 1 ≤ 4 - 1 - 1 := by decide
    cases hbit : b.testBit x.val with
    | true =>
      gi_wp2_with (refine ⟨trivial, ?_⟩; gi_at_call 8; refine (CallsIn.inRound l (callsIn_wide.2 (has_any b (x.val : Int) hb (by omega) (by omega) _))).mono ?_; rintro e w1 ⟨rfl, rfl⟩; rw [HX.out, hbit])
      refine ⟨KeepsOthers.setCell _ _ _, trivial, ⟨h0.kept (grownBy_setCell' _ _ _) (by simp), h1.set _⟩, hB.setCell (p := ⟨w.heap.size + 1, 0, none⟩) (by simp) _, Lib.hid ?_⟩
      intro y hy
      rcases List.mem_append.1 hy with hy | hy
      · exact HA.out y hy
      · rw [List.mem_singleton.1 hy]; exact hbit
    | false =>
      gi_wp2_with (refine ⟨trivial, ?_⟩; gi_at_call 8; refine (CallsIn.inRound l (callsIn_wide.2 (has_any b (x.val : Int) hb (by omega) (by omega) _))).mono ?_; rintro e w1 ⟨rfl, rfl⟩; rw [HX.out, hbit])
      exact ⟨KeepsOthers.setCell _ _ _, ⟨h0.kept (grownBy_setCell' _ _ _) (by simp), h1.set _⟩, hB.setCell (p := ⟨w.heap.size + 1, 0, none⟩) (by simp) _, rfl, Lib.hid ⟨x, List.mem_append.2 (.inr (List.mem_singleton.2 rfl)), hbit⟩⟩
  case done =>
    rintro D ys W hD hys ⟨⟨h0, h1⟩, hB, HA⟩ hK
    have HI : Hid (inS s b = true) := Lib.hid (by rw [inS, List.all_eq_true, ← show ys = nums s from hys]; exact HA.out)
    clear hys HA
    have c0 := h0.cell
    have f0 := h0.frozen
    have c1 := h1.cell
    have f1 := h1.frozen
    go_wp2_with fail
    rw [Exit.noGoto_ret]
    refine ⟨by simp, .inl ⟨_, _, rfl, run_takeDeferred hK, ?_⟩⟩
    exact ⟨_, results_tmp rfl _ _ _, by rw [HI.out]; rfl, hB.trans (belowK_b (w := w) (Nat.le_refl _) W D _ _ (by simp at hD; omega) hK rfl rfl)⟩
  case stop =>
    rintro D c pre W hD hpre ⟨⟨h0, h1⟩, hB, rfl, HA⟩ hK
    have HI : Hid (inS s b = false) := Lib.hid (by
      obtain ⟨x, hx, hxb⟩ := HA.out
      rw [inS, List.all_eq_false]
      exact ⟨x, hpre.subset hx, by rw [hxb]; decide⟩)
    clear hpre HA
    have c0 := h0.cell
    have f0 := h0.frozen
    have c1 := h1.cell
    have f1 := h1.frozen
    gi_wp2
    go_wp2_with fail
    rw [Exit.noGoto_ret]
    refine ⟨by simp, .inl ⟨_, _, rfl, run_takeDeferred hK, ?_⟩⟩
    exact ⟨_, results_tmp rfl _ _ _, by rw [HI.out]; rfl, hB.trans (belowK_b (w := w) (Nat.le_refl _) W D _ _ (by simp at hD; omega) hK rfl rfl)⟩
end Go.Proofs.Ytdbocnjphidliaa
