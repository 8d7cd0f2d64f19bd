/-
  Rings of the reference: a block of the most and a row; the walks of tollbarref03's Put, Take, Swap.
-/
import Derived.Test.YtkpnkhakjgfgfaaRSame
namespace Go.Proofs.Ytkpnkhakjgfgfaa.Rg
open Go.RowKit

/-- Block C is a ring of the reference, of that most, which has l. -/
def RefAt (W : World) (C m : Nat) (l : List Int) : Prop :=
  ∃ sv, W.heap[C]? = some (Obj.cells #[.int .i64 (m : Int), sv] 74 (0, 0)) ∧ W.ownsRow 0 2 1 sv l.length (I64 l)

theorem RefAt.lt {W : World} {C m : Nat} {l : List Int} (h : RefAt W C m l) : C < W.heap.size := by obtain ⟨sv, h, _⟩ := h; exact (Array.getElem?_eq_some_iff.1 h).1
theorem ownsRow_at {W : World} {base : Nat} {e : TypeId} {size : Nat} {v : Value} {k : Nat} {xs : List Value} (h : W.ownsRow base e size v k xs) {g : Nat} (hg : v.ownBlock = some g) : ∃ cs z, W.heap[g]? = some (Obj.cells cs e z) := by
  rcases h.2 with ⟨rfl, _⟩ | ⟨g', cap, cur, rfl, _, hgb, _⟩
  · simp [Value.ownBlock] at hg
  · obtain rfl : g' = g := by simpa [Value.ownBlock] using hg
    exact ⟨_, _, hgb⟩
/-- What turns no block of the reference's leaves its ring. -/
theorem RefAt.kept {W W' : World} {row : Option Nat} {C m : Nat} {l : List Int} (h : RefAt W C m l) (hg : W.grownBy W' row)
    (hr : ∀ (k : Nat) (cs : Array Value) (t : TypeId) (z : Nat × Nat), row = some k → W.heap[k]? = some (Obj.cells cs t z) → t ≠ 74 ∧ t ≠ 2) : RefAt W' C m l := by
  obtain ⟨sv, h1, h2⟩ := h
  refine ⟨sv, (hg.block C (Array.getElem?_eq_some_iff.1 h1).1 (fun e => (hr C _ _ _ e.symm h1).1 rfl)).trans h1, h2.kept hg ?_⟩
  cases hb : sv.ownBlock with
  | none => exact .inl rfl
  | some g =>
    obtain ⟨cs, z, hgb⟩ := ownsRow_at h2 hb
    exact .inr (fun e => (hr g _ _ _ e.symm hgb).2 rfl)
theorem RefAt.kept_ring {W W' : World} {B C m m' : Nat} {l l' : List Int} (h : RefAt W C m l) (hR : Rng W B m' l') (hg : W.grownBy W' (some B)) : RefAt W' C m l := by
  obtain ⟨vs, f, hr, _⟩ := hR
  refine h.kept hg fun k cs t z e hk => ?_
  cases e
  rw [hr.2] at hk; cases hk; decide
theorem Rng.ne_ref {W : World} {B C m m' : Nat} {l l' : List Int} (hR : Rng W B m l) (h : RefAt W C m' l') : B ≠ C := by
  obtain ⟨vs, f, hr, _⟩ := hR
  obtain ⟨sv, h1, _⟩ := h
  rintro rfl
  have := hr.2.symm.trans h1
  simp at this
theorem RefAt.below {W W' : World} {C m : Nat} {l : List Int} (h : RefAt W C m l) (hb : Below W.heap.size W W') : RefAt W' C m l :=
  h.kept (grownBy_of_below hb) (fun _ _ _ _ e => by cases e)
theorem RefAt.drewN {W : World} {C m : Nat} {l : List Int} (k : Nat) (h : RefAt W C m l) : RefAt (W.drewN k) C m l := h
theorem RefAt.drew {W : World} {C m : Nat} {l : List Int} (h : RefAt W C m l) : RefAt W.drew C m l := h

theorem cell2 {W : World} {C : Nat} {a b : Value} {t : TypeId} (h : W.heap[C]? = some (Obj.cells #[a, b] t (0, 0))) : W.cell? ⟨C, 0, none⟩ = some a ∧ W.cell? ⟨C, 1, none⟩ = some b ∧ W.frozen? ⟨C, 0, none⟩ = false ∧ W.frozen? ⟨C, 1, none⟩ = false := by
  simp [World.cell?, World.frozen?, h]

theorem ref_set {W : World} {C m : Nat} {sv sv' : Value} {t : TypeId} (h : W.heap[C]? = some (Obj.cells #[.int .i64 (m : Int), sv] t (0, 0))) : (W.setCell ⟨C, 1, none⟩ sv').heap[C]? = some (Obj.cells #[.int .i64 (m : Int), sv'] t (0, 0)) := heap_setCell_same sv' h

set_option maxRecDepth 100000 in
set_option maxHeartbeats 400000 in
theorem rput_full {C m : Nat} {ys : List Int} (v : Int) (w : World) (hR : RefAt w C m ys) (hfull : ys.length = m) :
    Calls Try.prog 20 #[.pointer (some ⟨C, 0, none⟩), .int .i64 v] w fun e w' => e = .returned (.int .i64 4) ∧ RefAt w' C m ys ∧ w.grownBy w' (some C) := by
  obtain ⟨sv, h1, h2⟩ := id hR
  obtain ⟨c0, c1, -, -⟩ := cell2 h1
  obtain ⟨a, n, c, rfl⟩ := owns_slice h2
  obtain rfl : n = ys.length := by rcases h2.2 with ⟨h, h'⟩ | ⟨g, cap, cur, h, _⟩ <;> simp at h <;> omega
  have ht : decide ((m : Int) ≤ (ys.length : Int)) = true := by simp; omega
  have ht' : (m : Int) ≤ (ys.length : Int) := by omega
  clear h1 h2
  go_enter Try.func20, Try.ntmps20
  go_wp2_with fail
  go_quiet (fail)
  go_wp2_with fail
  go_ret
  exact ⟨rfl, hR.drewN _, grownBy_drewN _ _ _⟩

set_option maxRecDepth 100000 in
set_option maxHeartbeats 400000 in
theorem rput_nil {C m : Nat} (v : Int) (w : World) (c0 : w.cell? ⟨C, 0, none⟩ = some (.int .i64 (m : Int))) (c1 : w.cell? ⟨C, 1, none⟩ = some (.slice none 0 0)) (f1 : w.frozen? ⟨C, 1, none⟩ = false) (hC : C < w.heap.size) (hm : 0 < m) :
    Calls Try.prog 20 #[.pointer (some ⟨C, 0, none⟩), .int .i64 v] w fun e w' => e = .returned (.int .i64 0) ∧ ∃ w1 sv', w' = w1.setCell ⟨C, 1, none⟩ sv' ∧ w1.ownsRow 0 2 1 sv' 1 [.int .i64 v] ∧ w.grownBy w1 none := by
  obtain ⟨i0, hi, hz0, hz1, hz2⟩ := info_parts info64
  have ht : decide ((m : Int) ≤ 0) = false := by simp; omega
  have ht' : ¬ (m : Int) ≤ 0 := by omega
  go_enter Try.func20, Try.ntmps20
  go_wp2_with fail
  go_quiet (fail)
  go_wp2_with (at_builtin; refine wpList_append_own _ rfl _ _ 72 rfl w.heap.size 2 i0 (.int .i64 0) 1 8 Try.underlying72 hi hz0 hz1 hz2 rfl (by decide) _ 0 [] rfl (World.ownsRow_nil _ _ _ _) ⟨w.heap.size, 0, none⟩ 1 1 [.int .i64 v] rfl rfl ?c1 ?c2 ?c3 ?c4 ?c5 ?_)
  case c1 => exact cell_one_new _ _ _
  case c2 => first | rfl | (intro x hx; simp at hx; subst hx; rfl)
  case c3 => unfold maxLen; omega
  case c4 => omega
  case c5 => first | exact Nat.le_refl _ | omega | (simp; done) | (simp; omega)
  intro v' w1 hown hgrow _
  obtain ⟨g', cap', rfl⟩ := ownsRow_succ hown
  have hg0 : w.grownBy w1 none := (grownBy_drewN w nq none).trans ((World.grownBy_alloc _ _ none).trans hgrow)
  have k1 := World.grownBy.cell hg0 c1 (by simp)
  have kf : w1.frozen? ⟨C, 1, none⟩ = false := (World.frozen?_of_block (w := w) (a := ⟨C, 1, none⟩) (hg0.block C hC (by simp))).trans f1
  go_wp2_with fail
  go_ret
  exact ⟨rfl, w1, _, rfl, ⟨hown.1, .inr (by
    rcases hown.2 with ⟨h, _⟩ | ⟨g, cap, cur, h, _, r⟩
    · cases h
    · exact ⟨g, cap, cur, h, Nat.zero_le _, r⟩)⟩, hg0⟩

theorem ownsRow_low {W : World} {base : Nat} {e : TypeId} {size : Nat} {v : Value} {k : Nat} {xs : List Value} (h : W.ownsRow base e size v k xs) : W.ownsRow 0 e size v k xs :=
  ⟨h.1, h.2.imp id (fun ⟨g, cap, cur, h1, _, r⟩ => ⟨g, cap, cur, h1, Nat.zero_le _, r⟩)⟩

theorem I64_get {xs : List Int} {j : Nat} {u : Value} (h : (I64 xs)[j]? = some u) : j < xs.length := by
  have := (List.getElem?_eq_some_iff.mp h).1
  simpa [I64] using this

set_option maxRecDepth 100000 in
set_option maxHeartbeats 400000 in
theorem rput_row {C m g cap : Nat} {ys : List Int} (v : Int) (w : World) (c0 : w.cell? ⟨C, 0, none⟩ = some (.int .i64 (m : Int))) (c1 : w.cell? ⟨C, 1, none⟩ = some (.slice (some ⟨g, 0, none⟩) ys.length cap)) (f1 : w.frozen? ⟨C, 1, none⟩ = false) (hC : C < w.heap.size)
    (hrow : w.ownsRow 0 2 1 (.slice (some ⟨g, 0, none⟩) ys.length cap) ys.length (I64 ys)) (hm : ys.length < m) (hm8 : m ≤ 1000) :
    Calls Try.prog 20 #[.pointer (some ⟨C, 0, none⟩), .int .i64 v] w fun e w' => e = .returned (.int .i64 0) ∧ ∃ w1 sv', w' = w1.setCell ⟨C, 1, none⟩ sv' ∧ w1.ownsRow 0 2 1 sv' (ys.length + 1) (I64 ys ++ [.int .i64 v]) ∧ w.grownBy w1 none := by
  obtain ⟨i0, hi, hz0, hz1, hz2⟩ := info_parts info64
  have ht : decide ((m : Int) ≤ (ys.length : Int)) = false := by simp; omega
  have ht' : ¬ (m : Int) ≤ (ys.length : Int) := by omega
  go_enter Try.func20, Try.ntmps20
  go_wp2_with fail
  go_quiet (fail)
  go_wp2_with (at_builtin; refine wpList_append_own _ rfl _ _ 72 rfl w.heap.size 2 i0 (.int .i64 0) 1 8 Try.underlying72 hi hz0 hz1 hz2 rfl (by decide) _ 0 [] rfl (World.ownsRow_nil _ _ _ _) ⟨g, 0, none⟩ ys.length cap (I64 ys) rfl ?c0 ?c1 ?c2 ?c3 ?c4 ?c5 ?_)
  case c0 => rw [I64_len]; omega
  case c1 =>
    intro j u hj
    have := hrow.cellAt j (by have := I64_get hj; omega)
    by_cases h0 : j = 0
    · subst h0; simpa [Addr.add] using this.trans hj
    · simpa [Addr.add, h0] using this.trans hj
  case c2 => intro x hx; simp [I64] at hx; obtain ⟨y, _, rfl⟩ := hx; rfl
  case c3 => unfold maxLen; omega
  case c4 => omega
  try (case c5 => first | exact Nat.le_refl _ | omega | (simp; done) | (simp; omega))
  intro v1 w1 hown hgrow _
  have hg0 : w.grownBy w1 none := (grownBy_drewN w nq none).trans hgrow
  clear hgrow
  have hsz := hg0.size
  go_wp2_with (at_builtin; refine wpList_append_own _ rfl _ _ 72 rfl w.heap.size 2 i0 (.int .i64 0) 1 8 Try.underlying72 hi hz0 hz1 hz2 rfl (by decide) _ ys.length (I64 ys) rfl (hown.alloc _) ⟨w1.heap.size, 0, none⟩ 1 1 [.int .i64 v] rfl rfl ?c1 ?c2 ?c3 ?c4 ?c5 ?_)
  case c1 => exact cell_one_new _ _ _
  case c2 => first | rfl | (intro x hx; simp at hx; subst hx; rfl)
  case c3 => unfold maxLen; omega
  case c4 => omega
  try (case c5 => first | exact Nat.le_refl _ | omega | (simp; done) | (simp; omega))
  intro v2 w2 hown2 hgrow2 _
  obtain ⟨g', cap', rfl⟩ := ownsRow_succ hown2
  have hg1 : w.grownBy w2 none := by
    refine ⟨hgrow2.os.trans hg0.os, hgrow2.tape.trans hg0.tape, hgrow2.output.trans hg0.output, Nat.le_trans hsz (Nat.le_trans (by simp) hgrow2.size), fun k hk _ => ?_⟩
    refine (hgrow2.block k (by simp; omega) ?_).trans ((Below.heap_alloc w1 _ k (by omega)).trans (hg0.block k hk (by simp)))
    intro e
    rcases hown.2 with ⟨rfl, _⟩ | ⟨q, cp, cur, rfl, hb, _⟩
    · simp [Value.ownBlock] at e
    · simp [Value.ownBlock] at e; omega
  have k1 := World.grownBy.cell hg1 c1 (by simp)
  have kf : w2.frozen? ⟨C, 1, none⟩ = false := (World.frozen?_of_block (w := w) (a := ⟨C, 1, none⟩) (hg1.block C hC (by simp))).trans f1
  clear hown hgrow2 hg0
  go_wp2_with fail
  go_ret
  exact ⟨rfl, w2, _, rfl, ownsRow_low hown2, hg1⟩

theorem rput_ring {C m : Nat} {ys : List Int} (v : Int) (w : World) (hR : RefAt w C m ys) (hm : ys.length ≤ m) (hm8 : m ≤ 1000) :
    Calls Try.prog 20 #[.pointer (some ⟨C, 0, none⟩), .int .i64 v] w fun e w' => e = .returned (.int .i64 (putE m ys)) ∧ RefAt w' C m (putL m ys v) ∧ w.grownBy w' (some C) := by
  by_cases h : ys.length = m
  · rw [putE, if_pos h, putL, if_pos h]
    exact rput_full v w hR h
  · rw [putE, if_neg h, putL, if_neg h]
    obtain ⟨sv, h1, h2⟩ := id hR
    obtain ⟨c0, c1, -, f1⟩ := cell2 h1
    have key : ∀ (w' : World) (w1 : World) (sv' : Value), w' = w1.setCell ⟨C, 1, none⟩ sv' → w1.ownsRow 0 2 1 sv' (ys.length + 1) (I64 ys ++ [.int .i64 v]) → w.grownBy w1 none → RefAt w' C m (ys ++ [v]) ∧ w.grownBy w' (some C) := by
      rintro w' w1 sv' rfl ho hg
      have hb : w1.heap[C]? = _ := (hg.block C hR.lt (by simp)).trans h1
      refine ⟨⟨sv', ref_set hb, ?_⟩, grown_set (grownBy_but hg _) _ _⟩
      rw [List.length_append, List.length_singleton, I64_snoc]
      refine ho.kept (grownBy_setCell w1 ⟨C, 1, none⟩ sv') ?_
      cases hb' : sv'.ownBlock with
      | none => exact .inl rfl
      | some g =>
        refine .inr fun e => ?_
        obtain ⟨cs, z, hgb⟩ := ownsRow_at ho hb'
        cases e
        rw [hb] at hgb
        cases hgb
    rcases h2.2 with ⟨rfl, h0⟩ | ⟨g, cap, cur, rfl, _⟩
    · obtain rfl : ys = [] := List.length_eq_zero_iff.mp h0
      refine (rput_nil v w c0 c1 f1 hR.lt (by simp at h; omega)).mono ?_
      rintro e w' ⟨rfl, w1, sv', h3, h4, h5⟩
      exact ⟨rfl, key _ _ _ h3 h4 h5⟩
    · refine (rput_row v w c0 c1 f1 hR.lt h2 (by omega) hm8).mono ?_
      rintro e w' ⟨rfl, w1, sv', h3, h4, h5⟩
      exact ⟨rfl, key _ _ _ h3 h4 h5⟩

set_option maxRecDepth 100000 in
set_option maxHeartbeats 400000 in
theorem rtake_none {C m : Nat} (w : World) (hR : RefAt w C m []) :
    Calls Try.prog 22 #[.pointer (some ⟨C, 0, none⟩)] w fun e w' => e = .returned (.tuple #[.int .i64 0, .int .i64 3]) ∧ w' = w := by
  obtain ⟨sv, h1, h2⟩ := id hR
  obtain ⟨c0, c1, -, -⟩ := cell2 h1
  obtain ⟨a, n, c, rfl⟩ := owns_slice h2
  obtain rfl : n = 0 := by rcases h2.2 with ⟨h, h'⟩ | ⟨g, cap, cur, h, _⟩ <;> simp at h <;> omega
  clear h1 h2
  go_enter Try.func22, Try.ntmps22
  go_wp2_with fail
  go_ret2
  exact ⟨rfl, rfl⟩

set_option maxRecDepth 100000 in
set_option maxHeartbeats 400000 in
theorem rtake_one {C g : Nat} {x : Int} (w : World) (c1 : w.cell? ⟨C, 1, none⟩ = some (.slice (some ⟨g, 0, none⟩) 1 1)) (f1 : w.frozen? ⟨C, 1, none⟩ = false) (hC : C < w.heap.size)
    (hx : w.cell? ⟨g, 0, none⟩ = some (.int .i64 x)) :
    Calls Try.prog 22 #[.pointer (some ⟨C, 0, none⟩)] w fun e w' => e = .returned (.tuple #[.int .i64 x, .int .i64 0]) ∧ ∃ w1 sv', w' = w1.setCell ⟨C, 1, none⟩ sv' ∧ w1.ownsRow 0 2 1 sv' 0 [] ∧ w.grownBy w1 none := by
  obtain ⟨i0, hi, hz0, hz1, hz2⟩ := info_parts info64
  go_enter Try.func22, Try.ntmps22
  go_wp2_with (at_builtin; refine wpList_append_own _ rfl _ _ 72 rfl w.heap.size 2 i0 (.int .i64 0) 1 8 Try.underlying72 hi hz0 hz1 hz2 rfl (by decide) _ 0 [] rfl (World.ownsRow_nil _ _ _ _) ⟨g, 0, none⟩ 0 _ ([]) rfl ?c0 ?c1 ?c2 ?c3 ?c4 ?c5 ?_)
  try (case c0 => rfl)
  try (case c1 => intro j u hj; simp at hj)
  try (case c2 => intro u hu; cases hu)
  try (case c3 => unfold maxLen; omega)
  try (case c4 => omega)
  try (case c5 => first | exact Nat.le_refl _ | omega | (simp; done) | (simp; omega))
  intro v' w1 hown hgrow _
  obtain ⟨va, vn, vc, rfl⟩ := owns_slice hown
  have hg0 : w.grownBy w1 none := hgrow
  have k1 := World.grownBy.cell hg0 c1 (by simp)
  have kf : w1.frozen? ⟨C, 1, none⟩ = false := (World.frozen?_of_block (w := w) (a := ⟨C, 1, none⟩) (hg0.block C hC (by simp))).trans f1
  go_wp2_with fail
  go_ret2
  exact ⟨rfl, w1, _, rfl, by simpa using ownsRow_low hown, hg0⟩

set_option maxRecDepth 100000 in
set_option maxHeartbeats 400000 in
theorem rtake_more {C g cap : Nat} {x : Int} {t : List Int} (w : World) (c1 : w.cell? ⟨C, 1, none⟩ = some (.slice (some ⟨g, 0, none⟩) (t.length + 1) cap)) (f1 : w.frozen? ⟨C, 1, none⟩ = false) (hC : C < w.heap.size)
    (hx : w.cell? ⟨g, 0, none⟩ = some (.int .i64 x)) (hat : ∀ j, j < t.length → w.cell? ⟨g, 1 + j, none⟩ = (I64 t)[j]?) (hcap : t.length + 1 ≤ cap) (h1 : 1 < cap) (h8 : t.length ≤ 1000) :
    Calls Try.prog 22 #[.pointer (some ⟨C, 0, none⟩)] w fun e w' => e = .returned (.tuple #[.int .i64 x, .int .i64 0]) ∧ ∃ w1 sv', w' = w1.setCell ⟨C, 1, none⟩ sv' ∧ w1.ownsRow 0 2 1 sv' t.length (I64 t) ∧ w.grownBy w1 none := by
  obtain ⟨i0, hi, hz0, hz1, hz2⟩ := info_parts info64
  have hk1 : (0 : Int) < (t.length : Int) + 1 := by omega
  have hk2 : (1 : Int) ≤ (t.length : Int) + 1 := by omega
  have hk3 : (t.length : Int) + 1 ≤ (cap : Int) := by omega
  have hk0 : ((t.length : Int) + 1 == 0) = false := by simp; omega
  have hk4 : (1 : Int) ≤ (cap : Int) := by omega
  have hk5 : ¬ (cap : Int) = 1 := by omega
  have hk6 : ¬ cap = 1 := by omega
  have hk7 : ¬ cap - 1 = 0 := by omega
  have hk8 : ¬ (cap ≤ 1) := by omega
  go_enter Try.func22, Try.ntmps22
  go_wp2_with (at_builtin; refine wpList_append_own _ rfl _ _ 72 rfl w.heap.size 2 i0 (.int .i64 0) 1 8 Try.underlying72 hi hz0 hz1 hz2 rfl (by decide) _ 0 [] rfl (World.ownsRow_nil _ _ _ _) ⟨g, 1, none⟩ t.length _ (I64 t) rfl ?c0 ?c1 ?c2 ?c3 ?c4 ?c5 ?_)
  case c0 => rw [I64_len]; omega
  case c1 =>
    intro j u hj
    have := hat j (I64_get hj)
    by_cases h0 : j = 0
    · subst h0; simpa [Addr.add] using this.trans hj
    · simpa [Addr.add, h0] using this.trans hj
  case c2 => intro u hu; simp [I64] at hu; obtain ⟨y, _, rfl⟩ := hu; rfl
  try (case c3 => unfold maxLen; omega)
  try (case c4 => omega)
  try (case c5 => first | exact Nat.le_refl _ | omega | (simp; done) | (simp; omega))
  intro v' w1 hown hgrow _
  obtain ⟨va, vn, vc, rfl⟩ := owns_slice hown
  have hg0 : w.grownBy w1 none := hgrow
  have k1 := World.grownBy.cell hg0 c1 (by simp)
  have kf : w1.frozen? ⟨C, 1, none⟩ = false := (World.frozen?_of_block (w := w) (a := ⟨C, 1, none⟩) (hg0.block C hC (by simp))).trans f1
  go_wp2_with fail
  go_ret2
  exact ⟨rfl, w1, _, rfl, by simpa using ownsRow_low hown, hg0⟩

/-- What a step's two facts say of the ring. -/
theorem RefAt.of_set {w w' w1 : World} {C m : Nat} {ys l : List Int} {sv' : Value} (hR : RefAt w C m ys) (he : w' = w1.setCell ⟨C, 1, none⟩ sv') (ho : w1.ownsRow 0 2 1 sv' l.length (I64 l)) (hg : w.grownBy w1 none) : RefAt w' C m l ∧ w.grownBy w' (some C) := by
  subst he
  obtain ⟨sv, h1, h2⟩ := id hR
  have hb : w1.heap[C]? = _ := (hg.block C hR.lt (by simp)).trans h1
  refine ⟨⟨sv', ref_set hb, ho.kept (grownBy_setCell w1 ⟨C, 1, none⟩ sv') ?_⟩, grown_set (grownBy_but hg _) _ _⟩
  cases hb' : sv'.ownBlock with
  | none => exact .inl rfl
  | some g =>
    refine .inr fun e => ?_
    obtain ⟨cs, z, hgb⟩ := ownsRow_at ho hb'
    cases e
    rw [hb] at hgb
    cases hgb

theorem rtake_some {C m : Nat} {x : Int} {t : List Int} (w : World) (hR : RefAt w C m (x :: t)) (h8 : t.length ≤ 1000) :
    Calls Try.prog 22 #[.pointer (some ⟨C, 0, none⟩)] w fun e w' => e = .returned (.tuple #[.int .i64 x, .int .i64 0]) ∧ RefAt w' C m t ∧ w.grownBy w' (some C) := by
  obtain ⟨sv, h1, h2⟩ := id hR
  obtain ⟨c0, c1, -, f1⟩ := cell2 h1
  have hC := hR.lt
  rw [List.length_cons] at h2
  rcases id h2.2 with ⟨_, h0⟩ | ⟨g, cap, cur, rfl, _, _, hcap, hmax, _, _⟩
  · omega
  have hx : w.cell? ⟨g, 0, none⟩ = some (.int .i64 x) := h2.cellAt 0 (by omega)
  have hat : ∀ j, j < t.length → w.cell? ⟨g, 1 + j, none⟩ = (I64 t)[j]? := fun j hj => by
    rw [Nat.add_comm]
    exact h2.cellAt (j + 1) (by omega)
  by_cases hc1 : cap = 1
  · subst hc1
    obtain rfl : t = [] := List.length_eq_zero_iff.mp (by omega)
    refine (rtake_one w c1 f1 hC hx).mono ?_
    rintro e w' ⟨rfl, w1, sv', h3, h4, h5⟩
    exact ⟨rfl, hR.of_set h3 h4 h5⟩
  · refine (rtake_more w c1 f1 hC hx hat hcap (by omega) h8).mono ?_
    rintro e w' ⟨rfl, w1, sv', h3, h4, h5⟩
    exact ⟨rfl, hR.of_set h3 h4 h5⟩

theorem rtake_ring {C m : Nat} {ys : List Int} (w : World) (hR : RefAt w C m ys) (h8 : ys.length ≤ 1000) :
    Calls Try.prog 22 #[.pointer (some ⟨C, 0, none⟩)] w fun e w' => e = .returned (.tuple #[.int .i64 (ys.head?.getD 0), .int .i64 (takeE ys)]) ∧ RefAt w' C m ys.tail ∧ w.grownBy w' (some C) := by
  cases ys with
  | nil =>
    simp only [List.head?_nil, Option.getD_none, List.tail_nil, show takeE [] = 3 from rfl]
    refine (rtake_none w hR).mono ?_
    rintro e w' ⟨rfl, rfl⟩
    exact ⟨rfl, hR, World.grownBy.refl _ _⟩
  | cons x t =>
    simp only [List.head?_cons, Option.getD_some, List.tail_cons, show takeE (x :: t) = 0 from by simp [takeE]]
    exact rtake_some w hR (by simp at h8; omega)

end Go.Proofs.Ytkpnkhakjgfgfaa.Rg
