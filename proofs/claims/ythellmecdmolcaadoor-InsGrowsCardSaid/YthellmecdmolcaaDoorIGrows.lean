/-
  The walk of InsGrows.
-/
import Derived.Test.YthellmecdmolcaaDoorIAlive
namespace Go.Proofs.YthellmecdmolcaaDoor
open Go.RowKit

theorem check_fold (a b c d : Int) (ps : List (Nat × Int)) (z : Bool) : ps.foldl (checkStep a b c d) z = (z && ps.all (mayB a b c d)) := by
  induction ps generalizing z with
  | nil => simp
  | cons p t ih => rw [List.foldl_cons, ih, List.all_cons, checkStep, Bool.and_assoc]
theorem checkB_eq (x : In) (a b c d : Int) : checkB x a b c d = (okI x && (pairs x).all (mayB a b c d)) := check_fold a b c d _ _
theorem below_more {v n m : Int} (hm : 0 ≤ m) (h : belowB v n = true) : belowB v (n + m) = true := by
  simp only [belowB, Bool.and_eq_true, decide_eq_true_eq] at h ⊢
  omega
theorem may_more {a b c d m : Int} (hm : 0 ≤ m) {p : Nat × Int} (h : mayB a b c d p = true) : mayB (a + m) (b + m) (c + m) (d + m) p = true := by
  obtain ⟨n, v⟩ := p
  unfold mayB at h ⊢
  simp only at h ⊢
  split <;> simp_all [below_more hm]
  rcases h with h | h
  · exact .inl h
  · exact .inr (below_more hm h)
theorem check_more {x : In} {a b c d m : Int} (hm : 0 ≤ m) (h : checkB x a b c d = true) : checkB x (a + m) (b + m) (c + m) (d + m) = true := by
  rw [checkB_eq] at h ⊢
  simp only [Bool.and_eq_true, List.all_eq_true] at h ⊢
  exact ⟨h.1, fun p hp => may_more hm (h.2 p hp)⟩
theorem check_ok {x : In} {a b c d : Int} (h : checkB x a b c d = true) : okI x = true := by
  rw [checkB_eq] at h
  simp only [Bool.and_eq_true] at h
  exact h.1
theorem local_names {o n : Nat} (h : localB o = true) (hn : n ∈ namesOf o) : n = 0 ∨ n = 1 ∨ n = 3 ∨ n = 4 := by
  have ho : o = 1 ∨ o = 2 ∨ o = 3 ∨ o = 4 := by
    simp only [localB, decide_eq_true_eq] at h
    omega
  rcases ho with rfl | rfl | rfl | rfl <;> simp [namesOf] at hn <;> omega
theorem check_local {x : In} {a b c d : Int} (hl : localB x.o = true) (h : checkB x a b c d = true) : checkB x 0 0 0 d = true := by
  rw [checkB_eq] at h ⊢
  simp only [Bool.and_eq_true, List.all_eq_true] at h ⊢
  refine ⟨h.1, fun p hp => ?_⟩
  have h1 := h.2 p hp
  obtain ⟨h2, _⟩ := pairs_get hp
  obtain ⟨n, v⟩ := p
  rcases local_names hl h2 with e | e | e | e <;> (simp only at e; subst e; exact h1)

set_option maxRecDepth 100000 in
set_option maxHeartbeats 1600000 in
theorem grows_walk (x : In) (hx : x.ok) (a b c d m : Int) (ha : 0 ≤ a ∧ a < 256) (hb : 0 ≤ b ∧ b < 256) (hc : 0 ≤ c ∧ c < 256) (hd : 0 ≤ d ∧ d < 256) (hm : 0 ≤ m ∧ m < 256) (w : World) (hv : Vars w) :
    Calls Tryd.prog 5 #[x.val, .int .u8 a, .int .u8 b, .int .u8 c, .int .u8 d, .int .u8 m] w fun e w' => e = .returned (.bool true) ∧ Below w.heap.size w w' := by
  obtain ⟨W0, hW0⟩ : ∃ W0, W0 = w.alloc (.cells #[.int .u8 (x.o : Int), .int .i64 x.a, .int .i64 x.b, .int .i64 x.c, .int .i64 x.k] 23) := ⟨_, rfl⟩
  have hb0 : But [] w W0 := by rw [hW0]; exact (But.refl [] w).alloc _
  have hbox : InAt W0 w.heap.size x := by rw [hW0]; exact inAt_new w x
  have hck := fun a b c d W => check_any x hx a b c d W
  have hln := fun W h => line_any x hx W h
  have qa : IntKind.i64.wrap a = a := by rw [IntKind.wrap_i64]; omega
  have qb : IntKind.i64.wrap b = b := by rw [IntKind.wrap_i64]; omega
  have qc : IntKind.i64.wrap c = c := by rw [IntKind.wrap_i64]; omega
  have qd : IntKind.i64.wrap d = d := by rw [IntKind.wrap_i64]; omega
  have qm : IntKind.i64.wrap m = m := by rw [IntKind.wrap_i64]; omega
  have ra : IntKind.i64.wrap (a + m) = a + m := by rw [IntKind.wrap_i64]; omega
  have rb : IntKind.i64.wrap (b + m) = b + m := by rw [IntKind.wrap_i64]; omega
  have rc : IntKind.i64.wrap (c + m) = c + m := by rw [IntKind.wrap_i64]; omega
  have rd : IntKind.i64.wrap (d + m) = d + m := by rw [IntKind.wrap_i64]; omega
  unfold In.val at hck hln ⊢
  have hB0 := hb0.below (Nat.le_refl _) (by simp)
  have h1 := hck a b c d W0
  rw [hW0] at h1
  cases hcb : checkB x a b c d with
  | false =>
    have e1 : checkE x a b c d = 2 := by unfold checkE; rw [hcb]; rfl
    rw [e1] at h1
    clear e1 hcb
    go_enter Tryd.func5, Tryd.ntmps5
    go_wp2_with fail
    refine h1.mono ?_
    rw [← hW0]
    rintro e w1 ⟨rfl, b1⟩
    have B1 := below_next hB0 b1 (Nat.le_refl _)
    go_wp2_with fail
    refine (alive_any _ (hv.below B1)).mono ?_
    rintro e w2 ⟨rfl, b2⟩
    have B2 := below_next B1 b2 (Nat.le_refl _)
    go_wp2_with fail
    go_ret
    exact ⟨rfl, B2⟩
  | true =>
    have e1 : checkE x a b c d = 0 := by unfold checkE; rw [hcb]; rfl
    have e2 : checkE x (a + m) (b + m) (c + m) (d + m) = 0 := by unfold checkE; rw [check_more hm.1 hcb]; rfl
    have e3 : lineE x = 0 := by unfold lineE; rw [check_ok hcb]; rfl
    rw [e1] at h1
    have h2 := fun W => hck (a + m) (b + m) (c + m) (d + m) W
    rw [e2] at h2
    rw [e3] at hln
    obtain ⟨s, hs⟩ : ∃ s : ByteArray, s = ⟨(lineV x).toArray⟩ := ⟨_, rfl⟩
    rw [← hs] at hln
    have h3 := fun W => hck 0 0 0 d W
    have hlc := fun W => local_any x.o W
    cases hl : localB x.o with
    | false =>
      rw [hl] at hlc
      clear e1 e2 e3 hcb hl hs h3
      go_enter Tryd.func5, Tryd.ntmps5
      go_wp2_with fail
      refine h1.mono ?_
      rw [← hW0]
      rintro e w1 ⟨rfl, b1⟩
      have B1 := below_next hB0 b1 (Nat.le_refl _)
      have i1 := hbox.of_block (b1.block _ hbox.lt)
      have x0 := i1.c0
      have x1 := i1.c1
      have x2 := i1.c2
      have x3 := i1.c3
      have x4 := i1.c4
      go_wp2_with fail
      refine (hln _ (hv.below B1)).mono ?_
      rintro e w2 ⟨rfl, b2⟩
      have B2 := below_next B1 b2 (Nat.le_refl _)
      have i2 := i1.of_block (b2.block _ i1.lt)
      have y0 := i2.c0
      have y1 := i2.c1
      have y2 := i2.c2
      have y3 := i2.c3
      have y4 := i2.c4
      go_wp2_with fail
      refine (h2 _).mono ?_
      rintro e w3 ⟨rfl, b3⟩
      have B3 := below_next B2 b3 (Nat.le_refl _)
      have i3 := i2.of_block (b3.block _ i2.lt)
      have z0 := i3.c0
      go_wp2_with fail
      refine (hlc _).mono ?_
      rintro e w4 ⟨rfl, rfl⟩
      go_wp2_with fail
      refine (alive_any _ (hv.below B3)).mono ?_
      rintro e w5 ⟨rfl, b5⟩
      have B5 := below_next B3 b5 (Nat.le_refl _)
      go_wp2_with fail
      go_ret
      exact ⟨rfl, B5⟩
    | true =>
      have e4 : checkE x 0 0 0 d = 0 := by unfold checkE; rw [check_local hl hcb]; rfl
      rw [hl] at hlc
      rw [e4] at h3
      clear e1 e2 e3 e4 hcb hl hs
      go_enter Tryd.func5, Tryd.ntmps5
      go_wp2_with fail
      refine h1.mono ?_
      rw [← hW0]
      rintro e w1 ⟨rfl, b1⟩
      have B1 := below_next hB0 b1 (Nat.le_refl _)
      have i1 := hbox.of_block (b1.block _ hbox.lt)
      have x0 := i1.c0
      have x1 := i1.c1
      have x2 := i1.c2
      have x3 := i1.c3
      have x4 := i1.c4
      go_wp2_with fail
      refine (hln _ (hv.below B1)).mono ?_
      rintro e w2 ⟨rfl, b2⟩
      have B2 := below_next B1 b2 (Nat.le_refl _)
      have i2 := i1.of_block (b2.block _ i1.lt)
      have y0 := i2.c0
      have y1 := i2.c1
      have y2 := i2.c2
      have y3 := i2.c3
      have y4 := i2.c4
      go_wp2_with fail
      refine (h2 _).mono ?_
      rintro e w3 ⟨rfl, b3⟩
      have B3 := below_next B2 b3 (Nat.le_refl _)
      have i3 := i2.of_block (b3.block _ i2.lt)
      have z0 := i3.c0
      have z1 := i3.c1
      have z2 := i3.c2
      have z3 := i3.c3
      have z4 := i3.c4
      go_wp2_with fail
      refine (hlc _).mono ?_
      rintro e w4 ⟨rfl, rfl⟩
      go_wp2_with fail
      refine (h3 _).mono ?_
      rintro e w4 ⟨rfl, b4⟩
      have B4 := below_next B3 b4 (Nat.le_refl _)
      go_wp2_with fail
      refine (alive_any _ (hv.below B4)).mono ?_
      rintro e w5 ⟨rfl, b5⟩
      have B5 := below_next B4 b5 (Nat.le_refl _)
      go_wp2_with fail
      go_ret
      exact ⟨rfl, B5⟩
end Go.Proofs.YthellmecdmolcaaDoor
