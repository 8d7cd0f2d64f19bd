/-
  The walks of Same: rows of the same things, in order.
-/
import Derived.Test.YtakgcienodigpaaGCheck
namespace Go.Proofs.Ytakgcienodigpaa
open Go.RowKit

def Cas.eq (x y : Cas) : Bool := x.s == y.s && (x.c == y.c && (x.v == y.v && x.o == y.o))
theorem Cas.eq_iff {x y : Cas} : Cas.eq x y = true ↔ x = y := by
  cases x; cases y
  simp [Cas.eq]
/-- As many things, each the same as its like. -/
def sameL {α : Type} (f : α → α → Bool) (xs ys : List α) : Bool := decide (xs.length = ys.length) && (List.range xs.length).all fun k => match xs[k]?, ys[k]? with | some x, some y => f x y | _, _ => true
section
variable {α : Type} {f : α → α → Bool} {xs ys : List α}
theorem same_len (h : xs.length ≠ ys.length) : sameL f xs ys = false := by simp [sameL, h]
theorem same_at {k : Nat} {x y : α} (hx : xs[k]? = some x) (hy : ys[k]? = some y) (h : f x y = false) : sameL f xs ys = false := by
  unfold sameL
  rw [Bool.and_eq_false_iff]
  refine .inr ?_
  rw [List.all_eq_false]
  exact ⟨k, List.mem_range.2 (List.getElem?_eq_some_iff.1 hx).1, by simp [hx, hy, h]⟩
theorem same_all (hl : xs.length = ys.length) (h : ∀ k x y, k < xs.length → xs[k]? = some x → ys[k]? = some y → f x y = true) : sameL f xs ys = true := by
  unfold sameL
  rw [Bool.and_eq_true, decide_eq_true_eq, List.all_eq_true]
  refine ⟨hl, fun k hk => ?_⟩
  have hk := List.mem_range.1 hk
  rw [List.getElem?_eq_getElem hk, List.getElem?_eq_getElem (by omega)]
  exact h k _ _ hk (List.getElem?_eq_getElem hk) (List.getElem?_eq_getElem (by omega))
theorem same_eq (hf : ∀ x y, f x y = true → x = y) (h : sameL f xs ys = true) : xs = ys := by
  unfold sameL at h
  rw [Bool.and_eq_true, decide_eq_true_eq, List.all_eq_true] at h
  refine List.ext_getElem h.1 fun k h1 h2 => ?_
  have := h.2 k (List.mem_range.2 h1)
  rw [List.getElem?_eq_getElem h1, List.getElem?_eq_getElem h2] at this
  exact hf _ _ this
theorem same_refl (hf : ∀ x, f x x = true) (xs : List α) : sameL f xs xs = true := same_all rfl fun k x y _ hx hy => by rw [hx] at hy; cases hy; exact hf x
end
def Sit.eq (x y : Sit) : Bool := (x.d == y.d) && sameL Cas.eq x.cs y.cs
def samePrg (p q : Prg) : Bool := sameL (fun a b : Int => a == b) p.caps q.caps && (sameL (sameL In.eq) p.codes q.codes && sameL Sit.eq p.sites q.sites)
theorem Sit.eq_refl (x : Sit) : Sit.eq x x = true := by simp [Sit.eq, same_refl (fun y => Cas.eq_iff.2 rfl)]
theorem samePrg_refl (p : Prg) : samePrg p p = true := by simp [samePrg, same_refl (fun y : Int => beq_self_eq_true y), same_refl (same_refl In.eq_refl), same_refl Sit.eq_refl]

theorem eq_runC (y x : Cas) (W : World) : (binOp .eql 80 (.agg #[.bool y.s, .int .i64 y.c, .int .i64 y.v, .int .i64 y.o]) (.agg #[.bool x.s, .int .i64 x.c, .int .i64 x.v, .int .i64 x.o])).run Try.prog W = .ok (.bool (Cas.eq y x)) W := by
  have u := Try.underlying80
  simp [go_sem]
  cases h : Cas.eq y x with
  | true =>
    obtain rfl := Cas.eq_iff.1 h
    simp
  | false =>
    have hne : y ≠ x := fun e => by rw [Cas.eq_iff.2 e] at h; cases h
    repeat' split
    all_goals first
      | rfl
      | exact absurd (by cases y; cases x; simp only at *; simp only [Cas.mk.injEq]; refine ⟨?_, ?_, ?_, ?_⟩ <;> assumption) hne

set_option maxRecDepth 100000 in
theorem equalInt_any (x y : Int) (w : World) :
    Calls Try.prog 33 #[.int .i64 x, .int .i64 y] w fun e w' => e = .returned (.bool (x == y)) ∧ Below w.heap.size w w' := by
  go_enter Try.func33, Try.ntmps33
  go_wp2_with fail
  go_ret
  exact ⟨rfl, Below.refl _ _⟩
set_option maxRecDepth 100000 in
theorem equalIns_any (x y : In) (w : World) :
    Calls Try.prog 66 #[.agg #[.int .u8 (x.o : Int), .int .i64 x.a, .int .i64 x.b, .int .i64 x.c, .int .i64 x.k], .agg #[.int .u8 (y.o : Int), .int .i64 y.a, .int .i64 y.b, .int .i64 y.c, .int .i64 y.k]] w fun e w' => e = .returned (.bool (In.eq x y)) ∧ Below w.heap.size w w' := by
  have he := fun W => eq_run x y W
  have hb := below2 w (.cells #[.int .u8 (x.o : Int), .int .i64 x.a, .int .i64 x.b, .int .i64 x.c, .int .i64 x.k] 44) (.cells #[.int .u8 (y.o : Int), .int .i64 y.a, .int .i64 y.b, .int .i64 y.c, .int .i64 y.k] 44)
  go_enter Try.func66, Try.ntmps66
  go_wp2_with fail
  go_ret
  exact ⟨rfl, hb⟩
set_option maxRecDepth 100000 in
theorem equalCase_any (x y : Cas) (w : World) :
    Calls Try.prog 68 #[.agg #[.bool x.s, .int .i64 x.c, .int .i64 x.v, .int .i64 x.o], .agg #[.bool y.s, .int .i64 y.c, .int .i64 y.v, .int .i64 y.o]] w fun e w' => e = .returned (.bool (Cas.eq x y)) ∧ Below w.heap.size w w' := by
  have he := fun W => eq_runC x y W
  have hb := below2 w (.cells #[.bool x.s, .int .i64 x.c, .int .i64 x.v, .int .i64 x.o] 80) (.cells #[.bool y.s, .int .i64 y.c, .int .i64 y.v, .int .i64 y.o] 80)
  go_enter Try.func68, Try.ntmps68
  go_wp2_with fail
  go_ret
  exact ⟨rfl, hb⟩

set_option maxRecDepth 100000 in
set_option maxHeartbeats 800000 in
theorem rowsInt_any {lo hi lo' hi' : Nat} {v1 v2 : Value} {xs ys : List Int} (w : World) (h1 : IntsAt lo hi w v1 xs) (h2 : IntsAt lo' hi' w v2 ys) (t1 : hi ≤ w.heap.size) (t2 : hi' ≤ w.heap.size) (hn : xs.length ≤ 1000000) :
    Calls Try.prog 32 #[v1, v2, .func (.func 33) #[] #[]] w fun e w' => e = .returned (.bool (sameL (fun a b : Int => a == b) xs ys)) ∧ Below w.heap.size w w' := by
  obtain ⟨a, c, rfl⟩ := h1.slice
  obtain ⟨a', c', rfl⟩ := h2.slice
  go_enter Try.func32, Try.ntmps32
  by_cases hl : xs.length = ys.length
  rotate_left 1
  · have HE := Lib.hid (same_len (f := (fun a b : Int => a == b)) hl)
    have hl' : ¬ (xs.length : Int) = (ys.length : Int) := by omega
    go_wp2_with fail
    go_ret
    exact ⟨ret_v (congrArg Value.bool HE.out.symm), Below.refl _ _⟩
  · have hl' : (xs.length : Int) = (ys.length : Int) := by omega
    have HL := Lib.hid hl
    go_wp2_with fail
    clear hl'
    go_loopw [15] (fun iv wr => ∃ k : Nat, k ≤ xs.length ∧ iv = .int .i64 (k : Int) ∧ Below w.heap.size w wr ∧ Hid (∀ j x y, j < k → xs[j]? = some x → ys[j]? = some y → (fun a b : Int => a == b) x y = true)) (fun iv _ => xs.length - (intOf iv).toNat)
    case atStart => exact ⟨0, Nat.zero_le _, rfl, Below.refl _ _, Lib.hid (fun j x y hj => by omega)⟩
    case round =>
      obtain ⟨k, hk, rfl, hB, HN⟩ := hrel
      by_cases hlt : k < xs.length
      · have hlt' : (k : Int) < (xs.length : Int) := by omega
        have hlt2 : (k : Int) < (ys.length : Int) := by omega
        have k0 : (0 : Int) ≤ (k : Int) := by omega
        have hw1 : IntKind.i64.wrap ((k : Int) + 1) = (k : Int) + 1 := by rw [IntKind.wrap_i64]; omega
        clear hl
        obtain ⟨b, off, x, rfl, -, -, hx, -, c0⟩ := (h1.stay (stay_below' hB t1)).at hlt
        obtain ⟨b', off', y, rfl, -, -, hy, -, d0⟩ := (h2.stay (stay_below' hB t2)).at (show k < ys.length by omega)
        have hcall : Calls Try.prog 33 #[.int .i64 x, .int .i64 y] wr.drew fun e w' => e = .returned (.bool ((fun a b : Int => a == b) x y)) ∧ Below wr.drew.heap.size wr.drew w' := equalInt_any x y _
        have HX := Lib.hid (And.intro hx hy)
        clear hx hy
        cases hv : (fun a b : Int => a == b) x y with
        | true =>
          rw [hv] at hcall
          have HV := Lib.hid hv
          clear hv
          go_wp2_with fail
          refine wp_region_still_tail 9 (by kernel_rfl) (by kernel_rfl) ?_
          simp only [List.take_succ_cons, List.take_zero, List.drop_succ_cons, List.drop_zero]
          change wpStill _ _ wr.drew (fun a' => wpList _ _ _ _ a' wr.drew) _ _
          repeat still_step
          refine wpStill_nil ?_
          go_wp2_with (go_at_call 33; refine hcall.mono ?_; rintro e w2 ⟨rfl, hb2⟩)
          go_round
          case rel =>
            refine ⟨k + 1, by omega, by go_num, below_next hB.drew hb2 (Nat.le_refl _), Lib.hid (fun j x' y' hj hx' hy' => ?_)⟩
            by_cases e : j = k
            · subst e
              rw [HX.out.1] at hx'
              rw [HX.out.2] at hy'
              cases hx'
              cases hy'
              exact HV.out
            · exact HN.out j x' y' (by omega) hx' hy'
          case measure => simp [intOf]; omega
        | false =>
          rw [hv] at hcall
          have HV := Lib.hid (same_at HX.out.1 HX.out.2 hv)
          clear hv
          go_wp2_with fail
          refine wp_region_still_tail 9 (by kernel_rfl) (by kernel_rfl) ?_
          simp only [List.take_succ_cons, List.take_zero, List.drop_succ_cons, List.drop_zero]
          change wpStill _ _ wr.drew (fun a' => wpList _ _ _ _ a' wr.drew) _ _
          repeat still_step
          refine wpStill_nil ?_
          go_wp2_with (go_at_call 33; refine hcall.mono ?_; rintro e w2 ⟨rfl, hb2⟩)
          go_ret
          exact ⟨ret_v (congrArg Value.bool HV.out.symm), below_next hB.drew hb2 (Nat.le_refl _)⟩
      · have hlt' : ¬ (k : Int) < (xs.length : Int) := by omega
        have hlt2 : ¬ (k : Int) < (ys.length : Int) := by omega
        have HE := Lib.hid (same_all (f := (fun a b : Int => a == b)) HL.out (fun j x y hj hx hy => HN.out j x y (by omega) hx hy))
        clear hl
        go_wp2_with fail
        go_ret
        exact ⟨ret_v (congrArg Value.bool HE.out.symm), hB⟩

set_option maxRecDepth 100000 in
set_option maxHeartbeats 800000 in
theorem rowsIns_any {lo hi lo' hi' : Nat} {v1 v2 : Value} {xs ys : List In} (w : World) (h1 : CodeAt lo hi w v1 xs) (h2 : CodeAt lo' hi' w v2 ys) (t1 : hi ≤ w.heap.size) (t2 : hi' ≤ w.heap.size) (hn : xs.length ≤ 1000000) :
    Calls Try.prog 65 #[v1, v2, .func (.func 66) #[] #[]] w fun e w' => e = .returned (.bool (sameL In.eq xs ys)) ∧ Below w.heap.size w w' := by
  obtain ⟨a, c, rfl⟩ := h1.slice
  obtain ⟨a', c', rfl⟩ := h2.slice
  go_enter Try.func65, Try.ntmps65
  by_cases hl : xs.length = ys.length
  rotate_left 1
  · have HE := Lib.hid (same_len (f := In.eq) hl)
    have hl' : ¬ (xs.length : Int) = (ys.length : Int) := by omega
    go_wp2_with fail
    go_ret
    exact ⟨ret_v (congrArg Value.bool HE.out.symm), Below.refl _ _⟩
  · have hl' : (xs.length : Int) = (ys.length : Int) := by omega
    have HL := Lib.hid hl
    go_wp2_with fail
    clear hl'
    go_loopw [15] (fun iv wr => ∃ k : Nat, k ≤ xs.length ∧ iv = .int .i64 (k : Int) ∧ Below w.heap.size w wr ∧ Hid (∀ j x y, j < k → xs[j]? = some x → ys[j]? = some y → In.eq x y = true)) (fun iv _ => xs.length - (intOf iv).toNat)
    case atStart => exact ⟨0, Nat.zero_le _, rfl, Below.refl _ _, Lib.hid (fun j x y hj => by omega)⟩
    case round =>
      obtain ⟨k, hk, rfl, hB, HN⟩ := hrel
      by_cases hlt : k < xs.length
      · have hlt' : (k : Int) < (xs.length : Int) := by omega
        have hlt2 : (k : Int) < (ys.length : Int) := by omega
        have k0 : (0 : Int) ≤ (k : Int) := by omega
        have hw1 : IntKind.i64.wrap ((k : Int) + 1) = (k : Int) + 1 := by rw [IntKind.wrap_i64]; omega
        clear hl
        obtain ⟨b, off, x, rfl, -, -, hx, -, c0, c1, c2, c3, c4⟩ := (h1.stay (stay_below' hB t1)).at hlt
        obtain ⟨b', off', y, rfl, -, -, hy, -, d0, d1, d2, d3, d4⟩ := (h2.stay (stay_below' hB t2)).at (show k < ys.length by omega)
        have hcall : Calls Try.prog 66 #[.agg #[.int .u8 (x.o : Int), .int .i64 x.a, .int .i64 x.b, .int .i64 x.c, .int .i64 x.k], .agg #[.int .u8 (y.o : Int), .int .i64 y.a, .int .i64 y.b, .int .i64 y.c, .int .i64 y.k]] wr.drew fun e w' => e = .returned (.bool (In.eq x y)) ∧ Below wr.drew.heap.size wr.drew w' := equalIns_any x y _
        have HX := Lib.hid (And.intro hx hy)
        clear hx hy
        cases hv : In.eq x y with
        | true =>
          rw [hv] at hcall
          have HV := Lib.hid hv
          clear hv
          go_wp2_with fail
          refine wp_region_still_tail 9 (by kernel_rfl) (by kernel_rfl) ?_
          simp only [List.take_succ_cons, List.take_zero, List.drop_succ_cons, List.drop_zero]
          change wpStill _ _ wr.drew (fun a' => wpList _ _ _ _ a' wr.drew) _ _
          repeat still_step
          refine wpStill_nil ?_
          go_wp2_with (go_at_call 66; refine hcall.mono ?_; rintro e w2 ⟨rfl, hb2⟩)
          go_round
          case rel =>
            refine ⟨k + 1, by omega, by go_num, below_next hB.drew hb2 (Nat.le_refl _), Lib.hid (fun j x' y' hj hx' hy' => ?_)⟩
            by_cases e : j = k
            · subst e
              rw [HX.out.1] at hx'
              rw [HX.out.2] at hy'
              cases hx'
              cases hy'
              exact HV.out
            · exact HN.out j x' y' (by omega) hx' hy'
          case measure => simp [intOf]; omega
        | false =>
          rw [hv] at hcall
          have HV := Lib.hid (same_at HX.out.1 HX.out.2 hv)
          clear hv
          go_wp2_with fail
          refine wp_region_still_tail 9 (by kernel_rfl) (by kernel_rfl) ?_
          simp only [List.take_succ_cons, List.take_zero, List.drop_succ_cons, List.drop_zero]
          change wpStill _ _ wr.drew (fun a' => wpList _ _ _ _ a' wr.drew) _ _
          repeat still_step
          refine wpStill_nil ?_
          go_wp2_with (go_at_call 66; refine hcall.mono ?_; rintro e w2 ⟨rfl, hb2⟩)
          go_ret
          exact ⟨ret_v (congrArg Value.bool HV.out.symm), below_next hB.drew hb2 (Nat.le_refl _)⟩
      · have hlt' : ¬ (k : Int) < (xs.length : Int) := by omega
        have hlt2 : ¬ (k : Int) < (ys.length : Int) := by omega
        have HE := Lib.hid (same_all (f := In.eq) HL.out (fun j x y hj hx hy => HN.out j x y (by omega) hx hy))
        clear hl
        go_wp2_with fail
        go_ret
        exact ⟨ret_v (congrArg Value.bool HE.out.symm), hB⟩

set_option maxRecDepth 100000 in
set_option maxHeartbeats 800000 in
theorem rowsCase_any {lo hi lo' hi' : Nat} {v1 v2 : Value} {xs ys : List Cas} (w : World) (h1 : CasesAt lo hi w v1 xs) (h2 : CasesAt lo' hi' w v2 ys) (t1 : hi ≤ w.heap.size) (t2 : hi' ≤ w.heap.size) (hn : xs.length ≤ 1000000) :
    Calls Try.prog 67 #[v1, v2, .func (.func 68) #[] #[]] w fun e w' => e = .returned (.bool (sameL Cas.eq xs ys)) ∧ Below w.heap.size w w' := by
  obtain ⟨a, c, rfl⟩ := h1.slice
  obtain ⟨a', c', rfl⟩ := h2.slice
  go_enter Try.func67, Try.ntmps67
  by_cases hl : xs.length = ys.length
  rotate_left 1
  · have HE := Lib.hid (same_len (f := Cas.eq) hl)
    have hl' : ¬ (xs.length : Int) = (ys.length : Int) := by omega
    go_wp2_with fail
    go_ret
    exact ⟨ret_v (congrArg Value.bool HE.out.symm), Below.refl _ _⟩
  · have hl' : (xs.length : Int) = (ys.length : Int) := by omega
    have HL := Lib.hid hl
    go_wp2_with fail
    clear hl'
    go_loopw [15] (fun iv wr => ∃ k : Nat, k ≤ xs.length ∧ iv = .int .i64 (k : Int) ∧ Below w.heap.size w wr ∧ Hid (∀ j x y, j < k → xs[j]? = some x → ys[j]? = some y → Cas.eq x y = true)) (fun iv _ => xs.length - (intOf iv).toNat)
    case atStart => exact ⟨0, Nat.zero_le _, rfl, Below.refl _ _, Lib.hid (fun j x y hj => by omega)⟩
    case round =>
      obtain ⟨k, hk, rfl, hB, HN⟩ := hrel
      by_cases hlt : k < xs.length
      · have hlt' : (k : Int) < (xs.length : Int) := by omega
        have hlt2 : (k : Int) < (ys.length : Int) := by omega
        have k0 : (0 : Int) ≤ (k : Int) := by omega
        have hw1 : IntKind.i64.wrap ((k : Int) + 1) = (k : Int) + 1 := by rw [IntKind.wrap_i64]; omega
        clear hl
        obtain ⟨b, off, x, rfl, -, -, hx, -, c0, c1, c2, c3⟩ := (h1.stay (stay_below' hB t1)).at hlt
        obtain ⟨b', off', y, rfl, -, -, hy, -, d0, d1, d2, d3⟩ := (h2.stay (stay_below' hB t2)).at (show k < ys.length by omega)
        have hcall : Calls Try.prog 68 #[.agg #[.bool x.s, .int .i64 x.c, .int .i64 x.v, .int .i64 x.o], .agg #[.bool y.s, .int .i64 y.c, .int .i64 y.v, .int .i64 y.o]] wr.drew fun e w' => e = .returned (.bool (Cas.eq x y)) ∧ Below wr.drew.heap.size wr.drew w' := equalCase_any x y _
        have HX := Lib.hid (And.intro hx hy)
        clear hx hy
        cases hv : Cas.eq x y with
        | true =>
          rw [hv] at hcall
          have HV := Lib.hid hv
          clear hv
          go_wp2_with fail
          refine wp_region_still_tail 9 (by kernel_rfl) (by kernel_rfl) ?_
          simp only [List.take_succ_cons, List.take_zero, List.drop_succ_cons, List.drop_zero]
          change wpStill _ _ wr.drew (fun a' => wpList _ _ _ _ a' wr.drew) _ _
          repeat still_step
          refine wpStill_nil ?_
          go_wp2_with (go_at_call 68; refine hcall.mono ?_; rintro e w2 ⟨rfl, hb2⟩)
          go_round
          case rel =>
            refine ⟨k + 1, by omega, by go_num, below_next hB.drew hb2 (Nat.le_refl _), Lib.hid (fun j x' y' hj hx' hy' => ?_)⟩
            by_cases e : j = k
            · subst e
              rw [HX.out.1] at hx'
              rw [HX.out.2] at hy'
              cases hx'
              cases hy'
              exact HV.out
            · exact HN.out j x' y' (by omega) hx' hy'
          case measure => simp [intOf]; omega
        | false =>
          rw [hv] at hcall
          have HV := Lib.hid (same_at HX.out.1 HX.out.2 hv)
          clear hv
          go_wp2_with fail
          refine wp_region_still_tail 9 (by kernel_rfl) (by kernel_rfl) ?_
          simp only [List.take_succ_cons, List.take_zero, List.drop_succ_cons, List.drop_zero]
          change wpStill _ _ wr.drew (fun a' => wpList _ _ _ _ a' wr.drew) _ _
          repeat still_step
          refine wpStill_nil ?_
          go_wp2_with (go_at_call 68; refine hcall.mono ?_; rintro e w2 ⟨rfl, hb2⟩)
          go_ret
          exact ⟨ret_v (congrArg Value.bool HV.out.symm), below_next hB.drew hb2 (Nat.le_refl _)⟩
      · have hlt' : ¬ (k : Int) < (xs.length : Int) := by omega
        have hlt2 : ¬ (k : Int) < (ys.length : Int) := by omega
        have HE := Lib.hid (same_all (f := Cas.eq) HL.out (fun j x y hj hx hy => HN.out j x y (by omega) hx hy))
        clear hl
        go_wp2_with fail
        go_ret
        exact ⟨ret_v (congrArg Value.bool HE.out.symm), hB⟩

set_option maxRecDepth 100000 in
theorem sameCode_any {lo hi lo' hi' : Nat} {v1 v2 : Value} {xs ys : List In} (w : World) (h1 : CodeAt lo hi w v1 xs) (h2 : CodeAt lo' hi' w v2 ys) (t1 : hi ≤ w.heap.size) (t2 : hi' ≤ w.heap.size) (hn : xs.length ≤ 1000000) :
    Calls Try.prog 35 #[v1, v2] w fun e w' => e = .returned (.bool (sameL In.eq xs ys)) ∧ Below w.heap.size w w' := by
  have hc := rowsIns_any w h1 h2 t1 t2 hn
  obtain ⟨a, c, rfl⟩ := h1.slice
  obtain ⟨a', c', rfl⟩ := h2.slice
  generalize sameL In.eq xs ys = r at hc ⊢
  go_enter Try.func35, Try.ntmps35
  go_wp2_with (go_at_call 65; refine hc.mono ?_; rintro e w2 ⟨rfl, hb2⟩)
  go_ret
  exact ⟨rfl, hb2⟩
set_option maxRecDepth 100000 in
theorem sameSite_any {lo hi lo' hi' : Nat} {v1 v2 : Value} {x y : Sit} (w : World) (h1 : CasesAt lo hi w v1 x.cs) (h2 : CasesAt lo' hi' w v2 y.cs) (t1 : hi ≤ w.heap.size) (t2 : hi' ≤ w.heap.size) (hn : x.cs.length ≤ 1000000) :
    Calls Try.prog 37 #[.agg #[v1, .bool x.d], .agg #[v2, .bool y.d]] w fun e w' => e = .returned (.bool (Sit.eq x y)) ∧ Below w.heap.size w w' := by
  obtain ⟨a, c, rfl⟩ := h1.slice
  obtain ⟨a', c', rfl⟩ := h2.slice
  obtain ⟨xc, xd⟩ := x
  obtain ⟨yc, yd⟩ := y
  simp only at h1 h2 hn ⊢
  have hb := below2 w (.cells #[.slice a xc.length c, .bool xd] 42) (.cells #[.slice a' yc.length c', .bool yd] 42)
  have hc := rowsCase_any ((w.alloc (.cells #[.slice a xc.length c, .bool xd] 42)).alloc (.cells #[.slice a' yc.length c', .bool yd] 42)) (h1.stay (stay_below' hb t1)) (h2.stay (stay_below' hb t2)) (Nat.le_trans t1 hb.size) (Nat.le_trans t2 hb.size) hn
  have HE : Hid (Sit.eq ⟨xc, xd⟩ ⟨yc, yd⟩ = ((xd == yd) && sameL Cas.eq xc yc)) := Lib.hid rfl
  generalize sameL Cas.eq xc yc = r at hc HE
  generalize Sit.eq ⟨xc, xd⟩ ⟨yc, yd⟩ = z at HE ⊢
  go_enter Try.func37, Try.ntmps37
  by_cases hd : xd = yd
  · subst hd
    have e1 : (xd == xd) = true := by simp
    have HZ : Hid (z = r) := Lib.hid (by rw [HE.out, e1, Bool.true_and])
    clear HE
    go_wp2_with (go_at_call 67; refine hc.mono ?_; rintro e w2 ⟨rfl, hb2⟩)
    go_ret
    exact ⟨ret_v (congrArg Value.bool HZ.out.symm), below_next hb hb2 (Nat.le_refl _)⟩
  · have e1 : (xd == yd) = false := by simpa using hd
    have HZ : Hid (z = false) := Lib.hid (by rw [HE.out, e1, Bool.false_and])
    clear HE
    go_wp2_with fail
    go_ret
    exact ⟨ret_v (congrArg Value.bool HZ.out.symm), hb⟩

set_option maxRecDepth 100000 in
set_option maxHeartbeats 800000 in
theorem rowsCode_any {lo hi lo' hi' : Nat} {v1 v2 : Value} {xs ys : List (List In)} (w : World) (h1 : CodesAt lo hi w v1 xs) (h2 : CodesAt lo' hi' w v2 ys) (t1 : hi ≤ w.heap.size) (t2 : hi' ≤ w.heap.size) (hn : xs.length ≤ 1000000) (hm : ∀ x ∈ xs, x.length ≤ 1000000) :
    Calls Try.prog 34 #[v1, v2, .func (.func 35) #[] #[]] w fun e w' => e = .returned (.bool (sameL (sameL In.eq) xs ys)) ∧ Below w.heap.size w w' := by
  obtain ⟨a, c, rfl⟩ := h1.slice
  obtain ⟨a', c', rfl⟩ := h2.slice
  go_enter Try.func34, Try.ntmps34
  by_cases hl : xs.length = ys.length
  rotate_left 1
  · have HE := Lib.hid (same_len (f := (sameL In.eq)) hl)
    have hl' : ¬ (xs.length : Int) = (ys.length : Int) := by omega
    go_wp2_with fail
    go_ret
    exact ⟨ret_v (congrArg Value.bool HE.out.symm), Below.refl _ _⟩
  · have hl' : (xs.length : Int) = (ys.length : Int) := by omega
    have HL := Lib.hid hl
    go_wp2_with fail
    clear hl'
    go_loopw [15] (fun iv wr => ∃ k : Nat, k ≤ xs.length ∧ iv = .int .i64 (k : Int) ∧ Below w.heap.size w wr ∧ Hid (∀ j x y, j < k → xs[j]? = some x → ys[j]? = some y → (sameL In.eq) x y = true)) (fun iv _ => xs.length - (intOf iv).toNat)
    case atStart => exact ⟨0, Nat.zero_le _, rfl, Below.refl _ _, Lib.hid (fun j x y hj => by omega)⟩
    case round =>
      obtain ⟨k, hk, rfl, hB, HN⟩ := hrel
      by_cases hlt : k < xs.length
      · have hlt' : (k : Int) < (xs.length : Int) := by omega
        have hlt2 : (k : Int) < (ys.length : Int) := by omega
        have k0 : (0 : Int) ≤ (k : Int) := by omega
        have hw1 : IntKind.i64.wrap ((k : Int) + 1) = (k : Int) + 1 := by rw [IntKind.wrap_i64]; omega
        clear hl
        obtain ⟨b, off, ra, rc, x, rfl, -, -, hx, c0, hrx⟩ := (h1.stay (stay_below' hB t1)).at hlt
        obtain ⟨b', off', ra', rc', y, rfl, -, -, hy, d0, hry⟩ := (h2.stay (stay_below' hB t2)).at (show k < ys.length by omega)
        have hcall : Calls Try.prog 35 #[.slice ra x.length rc, .slice ra' y.length rc'] wr.drew fun e w' => e = .returned (.bool ((sameL In.eq) x y)) ∧ Below wr.drew.heap.size wr.drew w' := sameCode_any wr.drew (hrx.stay (stay_below' (Below.refl _ wr).drew (Nat.le_trans t1 hB.size))) (hry.stay (stay_below' (Below.refl _ wr).drew (Nat.le_trans t2 hB.size))) (Nat.le_trans t1 hB.size) (Nat.le_trans t2 hB.size) (hm x (List.mem_of_getElem? hx))
        have HX := Lib.hid (And.intro hx hy)
        clear hx hy
        cases hv : (sameL In.eq) x y with
        | true =>
          rw [hv] at hcall
          have HV := Lib.hid hv
          clear hv
          go_wp2_with fail
          refine wp_region_still_tail 9 (by kernel_rfl) (by kernel_rfl) ?_
          simp only [List.take_succ_cons, List.take_zero, List.drop_succ_cons, List.drop_zero]
          change wpStill _ _ wr.drew (fun a' => wpList _ _ _ _ a' wr.drew) _ _
          repeat still_step
          refine wpStill_nil ?_
          go_wp2_with (go_at_call 35; refine hcall.mono ?_; rintro e w2 ⟨rfl, hb2⟩)
          go_round
          case rel =>
            refine ⟨k + 1, by omega, by go_num, below_next hB.drew hb2 (Nat.le_refl _), Lib.hid (fun j x' y' hj hx' hy' => ?_)⟩
            by_cases e : j = k
            · subst e
              rw [HX.out.1] at hx'
              rw [HX.out.2] at hy'
              cases hx'
              cases hy'
              exact HV.out
            · exact HN.out j x' y' (by omega) hx' hy'
          case measure => simp [intOf]; omega
        | false =>
          rw [hv] at hcall
          have HV := Lib.hid (same_at HX.out.1 HX.out.2 hv)
          clear hv
          go_wp2_with fail
          refine wp_region_still_tail 9 (by kernel_rfl) (by kernel_rfl) ?_
          simp only [List.take_succ_cons, List.take_zero, List.drop_succ_cons, List.drop_zero]
          change wpStill _ _ wr.drew (fun a' => wpList _ _ _ _ a' wr.drew) _ _
          repeat still_step
          refine wpStill_nil ?_
          go_wp2_with (go_at_call 35; refine hcall.mono ?_; rintro e w2 ⟨rfl, hb2⟩)
          go_ret
          exact ⟨ret_v (congrArg Value.bool HV.out.symm), below_next hB.drew hb2 (Nat.le_refl _)⟩
      · have hlt' : ¬ (k : Int) < (xs.length : Int) := by omega
        have hlt2 : ¬ (k : Int) < (ys.length : Int) := by omega
        have HE := Lib.hid (same_all (f := (sameL In.eq)) HL.out (fun j x y hj hx hy => HN.out j x y (by omega) hx hy))
        clear hl
        go_wp2_with fail
        go_ret
        exact ⟨ret_v (congrArg Value.bool HE.out.symm), hB⟩

set_option maxRecDepth 100000 in
set_option maxHeartbeats 800000 in
theorem rowsSite_any {lo hi lo' hi' : Nat} {v1 v2 : Value} {xs ys : List Sit} (w : World) (h1 : SitesAt lo hi w v1 xs) (h2 : SitesAt lo' hi' w v2 ys) (t1 : hi ≤ w.heap.size) (t2 : hi' ≤ w.heap.size) (hn : xs.length ≤ 1000000) (hm : ∀ x ∈ xs, x.cs.length ≤ 1000000) :
    Calls Try.prog 36 #[v1, v2, .func (.func 37) #[] #[]] w fun e w' => e = .returned (.bool (sameL Sit.eq xs ys)) ∧ Below w.heap.size w w' := by
  obtain ⟨a, c, rfl⟩ := h1.slice
  obtain ⟨a', c', rfl⟩ := h2.slice
  go_enter Try.func36, Try.ntmps36
  by_cases hl : xs.length = ys.length
  rotate_left 1
  · have HE := Lib.hid (same_len (f := Sit.eq) hl)
    have hl' : ¬ (xs.length : Int) = (ys.length : Int) := by omega
    go_wp2_with fail
    go_ret
    exact ⟨ret_v (congrArg Value.bool HE.out.symm), Below.refl _ _⟩
  · have hl' : (xs.length : Int) = (ys.length : Int) := by omega
    have HL := Lib.hid hl
    go_wp2_with fail
    clear hl'
    go_loopw [15] (fun iv wr => ∃ k : Nat, k ≤ xs.length ∧ iv = .int .i64 (k : Int) ∧ Below w.heap.size w wr ∧ Hid (∀ j x y, j < k → xs[j]? = some x → ys[j]? = some y → Sit.eq x y = true)) (fun iv _ => xs.length - (intOf iv).toNat)
    case atStart => exact ⟨0, Nat.zero_le _, rfl, Below.refl _ _, Lib.hid (fun j x y hj => by omega)⟩
    case round =>
      obtain ⟨k, hk, rfl, hB, HN⟩ := hrel
      by_cases hlt : k < xs.length
      · have hlt' : (k : Int) < (xs.length : Int) := by omega
        have hlt2 : (k : Int) < (ys.length : Int) := by omega
        have k0 : (0 : Int) ≤ (k : Int) := by omega
        have hw1 : IntKind.i64.wrap ((k : Int) + 1) = (k : Int) + 1 := by rw [IntKind.wrap_i64]; omega
        clear hl
        obtain ⟨b, off, ra, rc, x, rfl, -, -, hx, c0, c1, hrx⟩ := (h1.stay (stay_below' hB t1)).at hlt
        obtain ⟨b', off', ra', rc', y, rfl, -, -, hy, d0, d1, hry⟩ := (h2.stay (stay_below' hB t2)).at (show k < ys.length by omega)
        have hcall : Calls Try.prog 37 #[.agg #[.slice ra x.cs.length rc, .bool x.d], .agg #[.slice ra' y.cs.length rc', .bool y.d]] wr.drew fun e w' => e = .returned (.bool (Sit.eq x y)) ∧ Below wr.drew.heap.size wr.drew w' := sameSite_any wr.drew (hrx.stay (stay_below' (Below.refl _ wr).drew (Nat.le_trans t1 hB.size))) (hry.stay (stay_below' (Below.refl _ wr).drew (Nat.le_trans t2 hB.size))) (Nat.le_trans t1 hB.size) (Nat.le_trans t2 hB.size) (hm x (List.mem_of_getElem? hx))
        have HX := Lib.hid (And.intro hx hy)
        clear hx hy
        cases hv : Sit.eq x y with
        | true =>
          rw [hv] at hcall
          have HV := Lib.hid hv
          clear hv
          go_wp2_with fail
          refine wp_region_still_tail 9 (by kernel_rfl) (by kernel_rfl) ?_
          simp only [List.take_succ_cons, List.take_zero, List.drop_succ_cons, List.drop_zero]
          change wpStill _ _ wr.drew (fun a' => wpList _ _ _ _ a' wr.drew) _ _
          repeat still_step
          refine wpStill_nil ?_
          go_wp2_with (go_at_call 37; refine hcall.mono ?_; rintro e w2 ⟨rfl, hb2⟩)
          go_round
          case rel =>
            refine ⟨k + 1, by omega, by go_num, below_next hB.drew hb2 (Nat.le_refl _), Lib.hid (fun j x' y' hj hx' hy' => ?_)⟩
            by_cases e : j = k
            · subst e
              rw [HX.out.1] at hx'
              rw [HX.out.2] at hy'
              cases hx'
              cases hy'
              exact HV.out
            · exact HN.out j x' y' (by omega) hx' hy'
          case measure => simp [intOf]; omega
        | false =>
          rw [hv] at hcall
          have HV := Lib.hid (same_at HX.out.1 HX.out.2 hv)
          clear hv
          go_wp2_with fail
          refine wp_region_still_tail 9 (by kernel_rfl) (by kernel_rfl) ?_
          simp only [List.take_succ_cons, List.take_zero, List.drop_succ_cons, List.drop_zero]
          change wpStill _ _ wr.drew (fun a' => wpList _ _ _ _ a' wr.drew) _ _
          repeat still_step
          refine wpStill_nil ?_
          go_wp2_with (go_at_call 37; refine hcall.mono ?_; rintro e w2 ⟨rfl, hb2⟩)
          go_ret
          exact ⟨ret_v (congrArg Value.bool HV.out.symm), below_next hB.drew hb2 (Nat.le_refl _)⟩
      · have hlt' : ¬ (k : Int) < (xs.length : Int) := by omega
        have hlt2 : ¬ (k : Int) < (ys.length : Int) := by omega
        have HE := Lib.hid (same_all (f := Sit.eq) HL.out (fun j x y hj hx hy => HN.out j x y (by omega) hx hy))
        clear hl
        go_wp2_with fail
        go_ret
        exact ⟨ret_v (congrArg Value.bool HE.out.symm), hB⟩

set_option maxRecDepth 100000 in
set_option maxHeartbeats 800000 in
theorem same_any {lo hi lo' hi' : Nat} {v1 v2 v3 u1 u2 u3 : Value} {p q : Prg} (w : World) (h1 : PrgAt lo hi w v1 v2 v3 p) (h2 : PrgAt lo' hi' w u1 u2 u3 q) (hs : Small p) :
    Calls Try.prog 11 #[.agg #[v1, v2, v3], .agg #[u1, u2, u3]] w fun e w' => e = .returned (.bool (samePrg p q)) ∧ Below w.heap.size w w' := by
  have hb := below2 w (.cells #[v1, v2, v3] 26) (.cells #[u1, u2, u3] 26)
  obtain ⟨W, hW⟩ : ∃ W, W = (w.alloc (.cells #[v1, v2, v3] 26)).alloc (.cells #[u1, u2, u3] 26) := ⟨_, rfl⟩
  have z0 : Blk W w.heap.size 26 #[v1, v2, v3] := by rw [hW]; exact (blk_new w _ _).alloc _
  have z1 : Blk W (w.heap.size + 1) 26 #[u1, u2, u3] := by have := blk_new (w.alloc (.cells #[v1, v2, v3] 26)) 26 #[u1, u2, u3]; rw [World.size_alloc] at this; rw [hW]; exact this
  rw [← hW] at hb
  have g1 := h1.later hb
  have g2 := h2.later hb
  have hc1 := rowsInt_any W g1.caps g2.caps g1.top g2.top hs.caps
  have hc2 := fun w1 (b1 : Below W.heap.size W w1) => rowsCode_any w1 (g1.later b1).codes (g2.later b1).codes (g1.later b1).top (g2.later b1).top hs.codes hs.code
  have hc3 := fun w1 (b1 : Below W.heap.size W w1) => rowsSite_any w1 (g1.later b1).sites (g2.later b1).sites (g1.later b1).top (g2.later b1).top hs.sites hs.site
  have HE : Hid (samePrg p q = (sameL (fun a b : Int => a == b) p.caps q.caps && (sameL (sameL In.eq) p.codes q.codes && sameL Sit.eq p.sites q.sites))) := Lib.hid rfl
  generalize sameL (fun a b : Int => a == b) p.caps q.caps = r1 at hc1 HE
  generalize sameL (sameL In.eq) p.codes q.codes = r2 at hc2 HE
  generalize sameL Sit.eq p.sites q.sites = r3 at hc3 HE
  generalize samePrg p q = z at HE ⊢
  obtain ⟨a1, c1, rfl⟩ := h1.caps.slice
  obtain ⟨a2, c2, rfl⟩ := h1.codes.slice
  obtain ⟨a3, c3, rfl⟩ := h1.sites.slice
  obtain ⟨b1, d1, rfl⟩ := h2.caps.slice
  obtain ⟨b2, d2, rfl⟩ := h2.codes.slice
  obtain ⟨b3, d3, rfl⟩ := h2.sites.slice
  rw [hW] at hc1
  go_enter Try.func11, Try.ntmps11
  go_wp2_with fail
  refine hc1.mono ?_
  rintro e w1 ⟨rfl, hb1⟩
  rw [← hW] at hb1
  have s1 : w1.cell? ⟨w.heap.size, 1, none⟩ = some (.slice a2 p.codes.length c2) := (z0.later hb1 z0.lt).cell rfl
  have s2 : w1.cell? ⟨w.heap.size, 2, none⟩ = some (.slice a3 p.sites.length c3) := (z0.later hb1 z0.lt).cell rfl
  have s3 : w1.cell? ⟨w.heap.size + 1, 1, none⟩ = some (.slice b2 q.codes.length d2) := (z1.later hb1 z1.lt).cell rfl
  have s4 : w1.cell? ⟨w.heap.size + 1, 2, none⟩ = some (.slice b3 q.sites.length d3) := (z1.later hb1 z1.lt).cell rfl
  have hB1 := below_next hb hb1 (Nat.le_refl _)
  cases r1 with
  | false =>
    have HZ : Hid (z = false) := Lib.hid (by rw [HE.out, Bool.false_and])
    clear HE
    go_wp2_with fail
    go_ret
    exact ⟨ret_v (congrArg Value.bool HZ.out.symm), hB1⟩
  | true =>
    have hd2 := hc2 w1 hb1
    go_wp2_with fail
    refine hd2.mono ?_
    rintro e w2 ⟨rfl, hb2⟩
    have hb12 := below_next hb1 hb2 (Nat.le_refl _)
    have hB2 := below_next hb hb12 (Nat.le_refl _)
    clear s1 s3 hd2 s2 s4
    have s2 : w2.cell? ⟨w.heap.size, 2, none⟩ = some (.slice a3 p.sites.length c3) := (z0.later hb12 z0.lt).cell rfl
    have s4 : w2.cell? ⟨w.heap.size + 1, 2, none⟩ = some (.slice b3 q.sites.length d3) := (z1.later hb12 z1.lt).cell rfl
    cases r2 with
    | false =>
      have HZ : Hid (z = false) := Lib.hid (by rw [HE.out, Bool.true_and, Bool.false_and])
      clear HE
      go_wp2_with fail
      go_ret
      exact ⟨ret_v (congrArg Value.bool HZ.out.symm), hB2⟩
    | true =>
      have HZ : Hid (z = r3) := Lib.hid (by rw [HE.out, Bool.true_and, Bool.true_and])
      clear HE
      have hd3 := hc3 w2 hb12
      go_wp2_with fail
      refine hd3.mono ?_
      rintro e w3 ⟨rfl, hb3⟩
      go_wp2_with fail
      go_ret
      exact ⟨ret_v (congrArg Value.bool HZ.out.symm), below_next hB2 hb3 (Nat.le_refl _)⟩
end Go.Proofs.Ytakgcienodigpaa
