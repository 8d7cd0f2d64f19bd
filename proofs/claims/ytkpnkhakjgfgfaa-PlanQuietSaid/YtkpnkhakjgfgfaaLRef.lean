/-
  Queues of the reference: a block of a row; the walks of tollbarref07's At, Next, Put.
-/
import Derived.Test.YtkpnkhakjgfgfaaLSteps
namespace Go.Proofs.Ytkpnkhakjgfgfaa.Lq
open Go.RowKit

/-- Block R is a queue of the reference, which has xs. -/
def RefL (W : World) (R : Nat) (xs : List Int) : Prop :=
  ∃ sv, W.heap[R]? = some (Obj.cells #[sv] 63 (0, 0)) ∧ W.ownsRow 0 3 1 sv xs.length (I64 xs)
theorem ownsRow_at {W : World} {base : Nat} {e : TypeId} {size : Nat} {v : Value} {k : Nat} {xs : List Value} (h : W.ownsRow base e size v k xs) {g : Nat} (hg : v.ownBlock = some g) : ∃ cs z, W.heap[g]? = some (Obj.cells cs e z) := by
  rcases h.2 with ⟨rfl, _⟩ | ⟨g', cap, cur, rfl, _, hgb, _⟩
  · simp [Value.ownBlock] at hg
  · obtain rfl : g' = g := by simpa [Value.ownBlock] using hg
    exact ⟨_, _, hgb⟩
theorem ownsRow_low {W : World} {base : Nat} {e : TypeId} {size : Nat} {v : Value} {k : Nat} {xs : List Value} (h : W.ownsRow base e size v k xs) : W.ownsRow 0 e size v k xs :=
  ⟨h.1, h.2.imp id (fun ⟨g, cap, cur, h1, _, r⟩ => ⟨g, cap, cur, h1, Nat.zero_le _, r⟩)⟩
section
variable {W W' : World} {R : Nat} {xs : List Int}
theorem RefL.lt (h : RefL W R xs) : R < W.heap.size := by obtain ⟨sv, h, _⟩ := h; exact (Array.getElem?_eq_some_iff.1 h).1
theorem RefL.but (h : RefL W R xs) {S : List Nat} (hb : But S W W') (hR : R ∉ S) (hS : ∀ x ∈ S, ∀ cs z, W.heap[x]? ≠ some (Obj.cells cs 3 z)) : RefL W' R xs := by
  obtain ⟨sv, h1, h2⟩ := h
  refine ⟨sv, (hb.block R (Array.getElem?_eq_some_iff.1 h1).1 hR).trans h1, hb.row h2 (fun g hg hm => ?_)⟩
  obtain ⟨cs, z, hgb⟩ := ownsRow_at h2 hg
  exact hS g hm cs z hgb
theorem RefL.fresh (h : RefL W R xs) (hb : But [] W W') : RefL W' R xs := h.but hb (by simp) (by simp)
theorem RefL.drew (h : RefL W R xs) : RefL W.drew R xs := h.fresh (But.refl [] W).drew
/-- What writes a queue leaves the reference's. -/
theorem RefL.que (h : RefL W R xs) {B M : Nat} {ys : List Int} (hq : Que W B M ys) (hb : But [B, M] W W') : RefL W' R xs := by
  obtain ⟨cs, z, hB⟩ := hq.head
  obtain ⟨es, c, hM⟩ := hq.map
  obtain ⟨sv, h1, _⟩ := id h
  refine h.but hb ?_ ?_
  · simp only [List.mem_cons, List.not_mem_nil, or_false, not_or]
    refine ⟨?_, ?_⟩
    · rintro rfl; rw [hB] at h1; simp at h1
    · rintro rfl; rw [hM] at h1; simp at h1
  · simp only [List.mem_cons, List.not_mem_nil, or_false]
    rintro x (rfl | rfl) cs' z' e
    · rw [hB] at e; simp at e
    · rw [hM] at e; simp at e
theorem Que.ref {B M : Nat} {ys : List Int} (hq : Que W B M ys) (h : RefL W R xs) (hb : But [R] W W') : Que W' B M ys := by
  obtain ⟨cs, z, hB⟩ := hq.head
  obtain ⟨es, c, hM⟩ := hq.map
  obtain ⟨sv, h1, _⟩ := h
  refine hq.but hb ?_ ?_
  · simp only [List.mem_singleton]; rintro rfl; rw [hB] at h1; simp at h1
  · simp only [List.mem_singleton]; rintro rfl; rw [hM] at h1; simp at h1
theorem cell1 {a : Value} {t : TypeId} (h : W.heap[R]? = some (Obj.cells #[a] t (0, 0))) : W.cell? ⟨R, 0, none⟩ = some a ∧ W.frozen? ⟨R, 0, none⟩ = false := by
  simp [World.cell?, World.frozen?, h]
/-- What a store says of the queue. -/
theorem RefL.of_set {w1 : World} {l : List Int} {sv' : Value} (hR : RefL W R xs) (he : W' = w1.setCell ⟨R, 0, none⟩ sv') (ho : w1.ownsRow 0 3 1 sv' l.length (I64 l)) (hg : But [] W w1) : RefL W' R l ∧ But [R] W W' := by
  subst he
  obtain ⟨sv, h1, h2⟩ := id hR
  have hb : w1.heap[R]? = _ := (hg.block R hR.lt (by simp)).trans h1
  refine ⟨⟨sv', heap_set_same _ hb, ho.kept (grownBy_setCell' w1 R sv') ?_⟩, (hg.mono (by simp)).set (p := ⟨R, 0, none⟩) (by simp) _⟩
  cases hb' : sv'.ownBlock with
  | none => exact .inl rfl
  | some g =>
    refine .inr fun e => ?_
    obtain ⟨cs, z, hgb⟩ := ownsRow_at ho hb'
    cases e
    rw [hb] at hgb
    cases hgb
end

theorem idx_first {xs : List Int} {i : Int} {k : Nat} (h1 : xs[k]? = some i) (h2 : i ∉ xs.take k) : xs.idxOf? i = some k := by
  obtain ⟨hk, he⟩ := List.getElem?_eq_some_iff.1 h1
  rw [List.idxOf?, List.findIdx?_eq_some_iff_getElem]
  refine ⟨hk, by simp [he], fun j hj => ?_⟩
  have hlt : j < xs.length := by omega
  simp only [beq_iff_eq]
  intro e
  exact h2 (by rw [← e]; exact List.mem_take_iff_getElem.2 ⟨j, by omega, rfl⟩)
/-- The place of i, or -1. -/
def atV (xs : List Int) (i : Int) : Int := match xs.idxOf? i with
  | some k => (k : Int)
  | none => -1
theorem atV_not {xs : List Int} {i : Int} (h : i ∉ xs) : atV xs i = -1 := by
  have : xs.idxOf? i = none := by simpa using h
  rw [atV, this]
theorem atV_is {xs : List Int} {i : Int} (h : i ∈ xs) : ∃ k, xs.idxOf? i = some k ∧ xs[k]? = some i ∧ atV xs i = (k : Int) := by
  cases e : xs.idxOf? i with
  | none => exact absurd h (by simpa using e)
  | some k =>
    refine ⟨k, rfl, ?_, by rw [atV, e]⟩
    rw [List.idxOf?, List.findIdx?_eq_some_iff_getElem] at e
    obtain ⟨h1, h2, _⟩ := e
    rw [List.getElem?_eq_getElem h1]
    simpa using h2

theorem ret_i {x y : Int} (h : x = y) : Ending.returned (.int .i64 x) = .returned (.int .i64 y) := by rw [h]
set_option maxHeartbeats 800000 in
theorem at_any {R : Nat} {xs : List Int} (i : Int) (w : World) (h : RefL w R xs) (hl : xs.length ≤ 1024) :
    Calls Try.prog 43 #[.pointer (some ⟨R, 0, none⟩), .int .i64 i] w fun e w' => e = .returned (.int .i64 (atV xs i)) ∧ w' = w := by
  obtain ⟨sv, h1, h2⟩ := h
  have hc := (cell1 h1).1
  have hrow := RowI.of_owns (ownsRow_low h2)
  obtain ⟨p, c, rfl⟩ := hrow.slice
  clear h1 h2
  go_enter Try.func43, Try.ntmps43
  go_wp2_with fail
  go_loopw [5] (fun iv wr => ∃ k : Nat, k ≤ xs.length ∧ iv = .int .i64 (k : Int) ∧ i ∉ xs.take k ∧ wr = w) (fun iv _ => xs.length - (intOf iv).toNat)
  case atStart => exact ⟨0, Nat.zero_le _, rfl, by simp, rfl⟩
  case round =>
    obtain ⟨k, hk, rfl, hn, rfl⟩ := hrel
    by_cases hlt : k < xs.length
    · have hlt' : (k : Int) < (xs.length : Int) := by omega
      have k0 : (0 : Int) ≤ (k : Int) := by omega
      obtain ⟨b, off, rfl, hb, hcell⟩ := hrow.at hlt
      obtain ⟨x, hx⟩ : ∃ x, xs[k]? = some x := ⟨_, List.getElem?_eq_getElem hlt⟩
      rw [hx] at hcell
      simp only [Option.getD_some] at hcell
      by_cases e : x = i
      · subst e
        have HF : Hid ((k : Int) = atV xs x) := Lib.hid (by rw [atV, idx_first hx hn])
        have hxx : (x == x) = true := by simp
        clear hx hn
        go_wp2_with fail
        go_ret
        exact ⟨ret_i HF.out, rfl⟩
      · have hxx : (x == i) = false := by simpa using e
        have HN : Hid (i ∉ xs.take (k + 1)) := Lib.hid (by
          rw [take_snocI xs k hlt, hx]
          simp only [Option.getD_some, List.mem_append, List.mem_singleton, not_or]
          exact ⟨hn, fun e' => e e'.symm⟩)
        clear hx hn
        go_wp2_with fail
        go_roundw
        case rel => exact ⟨k + 1, by omega, by go_num, HN.out, by first | rfl | trivial⟩
        case measure => simp [intOf]; omega
    · obtain rfl : k = xs.length := by omega
      have hlt' : ¬ ((xs.length : Int) < (xs.length : Int)) := by omega
      have HF : Hid ((-1 : Int) = atV xs i) := Lib.hid (by rw [List.take_length] at hn; rw [atV_not hn])
      clear hn
      go_wp2_with fail
      go_ret
      exact ⟨ret_i HF.out, rfl⟩

theorem ret_ib {x y : Int} {b c : Bool} (h : x = y) (k : b = c) : Ending.returned (.tuple #[.int .i64 x, .bool b]) = .returned (.tuple #[.int .i64 y, .bool c]) := by rw [h, k]
/-! ### Put -/
theorem I64_get {xs : List Int} {j : Nat} {u : Value} (h : (I64 xs)[j]? = some u) : j < xs.length := by
  have := (List.getElem?_eq_some_iff.mp h).1
  simpa [I64] using this
theorem I64_one {xs : List Int} : ∀ u ∈ I64 xs, u.oneCell' = true := by intro x hx; simp [I64] at hx; obtain ⟨y, _, rfl⟩ := hx; rfl
theorem rput_arg {R : Nat} (i : Int) (h : i < 0 ∨ 1024 ≤ i) (w : World) :
    Calls Try.prog 24 #[.pointer (some ⟨R, 0, none⟩), .int .i64 i] w fun e w' => e = .returned (.int .i64 2) ∧ w' = w := by
  rcases h with h | h
  · have t1 : decide (i < 0) = true := by simpa using h
    go_enter Try.func24, Try.ntmps24
    go_wp2_with fail
    go_ret
    exact ⟨rfl, rfl⟩
  · have t1 : decide (i < 0) = false := by simp; omega
    have t2 : decide (1024 ≤ i) = true := by simpa using h
    have t3 : ¬ i < 0 := by omega
    go_enter Try.func24, Try.ntmps24
    go_wp2_with fail
    go_ret
    exact ⟨rfl, rfl⟩
theorem rput_have {R : Nat} {xs : List Int} (i : Int) (w : World) (h : RefL w R xs) (hl : xs.length ≤ 1024) (hm : i ∈ xs) (h1 : 0 ≤ i) (h2 : i < 1024) :
    Calls Try.prog 24 #[.pointer (some ⟨R, 0, none⟩), .int .i64 i] w fun e w' => e = .returned (.int .i64 9) ∧ w' = w := by
  have hat := at_any i w h hl
  obtain ⟨k, hk, hki, hv⟩ := atV_is hm
  rw [hv] at hat
  have t1 : decide (i < 0) = false := by simp; omega
  have t2 : decide (1024 ≤ i) = false := by simp; omega
  have t3 : ¬ i < 0 := by omega
  have t4 : ¬ 1024 ≤ i := by omega
  have k0 : decide ((0 : Int) ≤ (k : Int)) = true := by simp
  have k00 : (0 : Int) ≤ (k : Int) := by omega
  clear h hk hki hm hv
  go_enter Try.func24, Try.ntmps24
  go_wp2_with fail
  refine hat.mono ?_
  rintro e w ⟨rfl, rfl⟩
  go_wp2_with fail
  go_ret
  exact ⟨rfl, rfl⟩
set_option maxHeartbeats 400000 in
theorem rput_nil {R : Nat} (i : Int) (w : World) (hat : Calls Try.prog 43 #[.pointer (some ⟨R, 0, none⟩), .int .i64 i] w fun e w' => e = .returned (.int .i64 (-1)) ∧ w' = w) (h1 : 0 ≤ i) (h2 : i < 1024)
    (c0 : w.cell? ⟨R, 0, none⟩ = some (.slice none 0 0)) (f0 : w.frozen? ⟨R, 0, none⟩ = false) (hR : R < w.heap.size) :
    Calls Try.prog 24 #[.pointer (some ⟨R, 0, none⟩), .int .i64 i] w fun e w' => e = .returned (.int .i64 0) ∧ ∃ w1 sv', w' = w1.setCell ⟨R, 0, none⟩ sv' ∧ w1.ownsRow 0 3 1 sv' 1 [.int .i64 i] ∧ But [] w w1 := by
  obtain ⟨i0, hi, hz0, hz1, hz2⟩ := info_parts infoInt
  have t1 : decide (i < 0) = false := by simp; omega
  have t2 : decide (1024 ≤ i) = false := by simp; omega
  have t3 : ¬ i < 0 := by omega
  have t4 : ¬ 1024 ≤ i := by omega
  go_enter Try.func24, Try.ntmps24
  go_wp2_with fail
  refine hat.mono ?_
  clear hat
  rintro e w ⟨rfl, rfl⟩
  go_wp2_with (at_builtin; refine wpList_append_own _ rfl _ _ 61 rfl w.heap.size 3 i0 (.int .i64 0) 1 8 Try.underlying61 hi hz0 hz1 hz2 rfl (by decide) _ 0 [] rfl (World.ownsRow_nil _ _ _ _) ⟨w.heap.size, 0, none⟩ 1 1 [.int .i64 i] rfl rfl ?c1 ?c2 ?c3 ?c4 ?c5 ?_)
  case c1 => exact cell_one_new _ _ _
  case c2 => first | rfl | (intro x hx; simp at hx; subst hx; rfl)
  case c3 => unfold maxLen; omega
  case c4 => omega
  case c5 => first | exact Nat.le_refl _ | omega | (simp; done) | (simp; omega)
  intro v' w1 hown hgrow _
  obtain ⟨g', cap', rfl⟩ := ownsRow_succ hown
  have hg0 : w.grownBy w1 none := (World.grownBy_alloc _ _ none).trans hgrow
  have k1 := World.grownBy.cell hg0 c0 (by simp)
  have kf : w1.frozen? ⟨R, 0, none⟩ = false := (World.frozen?_of_block (w := w) (a := ⟨R, 0, none⟩) (hg0.block R hR (by simp))).trans f0
  go_wp2_with fail
  go_ret
  exact ⟨rfl, w1, _, rfl, ownsRow_low hown, But.of_none hg0 _⟩
set_option maxHeartbeats 400000 in
theorem rput_row {R g cap : Nat} {ys : List Int} (i : Int) (w : World) (hat : Calls Try.prog 43 #[.pointer (some ⟨R, 0, none⟩), .int .i64 i] w fun e w' => e = .returned (.int .i64 (-1)) ∧ w' = w) (h1 : 0 ≤ i) (h2 : i < 1024)
    (c0 : w.cell? ⟨R, 0, none⟩ = some (.slice (some ⟨g, 0, none⟩) ys.length cap)) (f0 : w.frozen? ⟨R, 0, none⟩ = false) (hR : R < w.heap.size)
    (hrow : w.ownsRow 0 3 1 (.slice (some ⟨g, 0, none⟩) ys.length cap) ys.length (I64 ys)) (hm : ys.length ≤ 1024) :
    Calls Try.prog 24 #[.pointer (some ⟨R, 0, none⟩), .int .i64 i] w fun e w' => e = .returned (.int .i64 0) ∧ ∃ w1 sv', w' = w1.setCell ⟨R, 0, none⟩ sv' ∧ w1.ownsRow 0 3 1 sv' (ys.length + 1) (I64 ys ++ [.int .i64 i]) ∧ But [] w w1 := by
  obtain ⟨i0, hi, hz0, hz1, hz2⟩ := info_parts infoInt
  have t1 : decide (i < 0) = false := by simp; omega
  have t2 : decide (1024 ≤ i) = false := by simp; omega
  have t3 : ¬ i < 0 := by omega
  have t4 : ¬ 1024 ≤ i := by omega
  go_enter Try.func24, Try.ntmps24
  go_wp2_with fail
  refine hat.mono ?_
  clear hat
  rintro e w ⟨rfl, rfl⟩
  go_wp2_with (at_builtin; refine wpList_append_own _ rfl _ _ 61 rfl w.heap.size 3 i0 (.int .i64 0) 1 8 Try.underlying61 hi hz0 hz1 hz2 rfl (by decide) _ 0 [] rfl (World.ownsRow_nil _ _ _ _) ⟨g, 0, none⟩ ys.length cap (I64 ys) rfl ?c0 ?c1 ?c2 ?c3 ?c4 ?c5 ?_)
  case c0 => rw [I64_len]; omega
  case c1 =>
    intro j u hj
    have := hrow.cellAt j (by have := I64_get hj; omega)
    by_cases h0 : j = 0
    · subst h0; simpa [Addr.add] using this.trans hj
    · simpa [Addr.add, h0] using this.trans hj
  case c2 => exact I64_one
  case c3 => unfold maxLen; omega
  case c4 => omega
  try (case c5 => first | exact Nat.le_refl _ | omega | (simp; done) | (simp; omega))
  intro v1 w1 hown hgrow _
  have hg0 : w.grownBy w1 none := hgrow
  clear hgrow
  have hsz := hg0.size
  have hown' : w1.ownsRow w.heap.size 3 1 v1 ys.length (I64 ys) := by simpa using hown
  replace hown := hown'
  clear hown'
  go_wp2_with (at_builtin; refine wpList_append_own _ rfl _ _ 61 rfl w.heap.size 3 i0 (.int .i64 0) 1 8 Try.underlying61 hi hz0 hz1 hz2 rfl (by decide) _ ys.length (I64 ys) rfl (hown.alloc _) ⟨w1.heap.size, 0, none⟩ 1 1 [.int .i64 i] rfl rfl ?c1 ?c2 ?c3 ?c4 ?c5 ?_)
  case c1 => exact cell_one_new _ _ _
  case c2 => first | rfl | (intro x hx; simp at hx; subst hx; rfl)
  case c3 => unfold maxLen; omega
  case c4 => omega
  try (case c5 => first | exact Nat.le_refl _ | omega | (simp; done) | (simp; omega))
  intro v2 w2 hown2 hgrow2 _
  obtain ⟨g', cap', rfl⟩ := ownsRow_succ hown2
  have hg1 : w.grownBy w2 none := by
    refine ⟨hgrow2.os.trans hg0.os, hgrow2.tape.trans hg0.tape, hgrow2.output.trans hg0.output, Nat.le_trans hsz (Nat.le_trans (by simp) hgrow2.size), fun k hk _ => ?_⟩
    refine (hgrow2.block k (by simp; omega) ?_).trans ((Below.heap_alloc w1 _ k (by omega)).trans (hg0.block k hk (by simp)))
    intro e
    rcases hown.2 with ⟨rfl, _⟩ | ⟨q, cp, cur, rfl, hb, _⟩
    · simp [Value.ownBlock] at e
    · simp [Value.ownBlock] at e; omega
  have k1 := World.grownBy.cell hg1 c0 (by simp)
  have kf : w2.frozen? ⟨R, 0, none⟩ = false := (World.frozen?_of_block (w := w) (a := ⟨R, 0, none⟩) (hg1.block R hR (by simp))).trans f0
  clear hown hgrow2 hg0
  go_wp2_with fail
  go_ret
  exact ⟨rfl, w2, _, rfl, ownsRow_low hown2, But.of_none hg1 _⟩
theorem rput_any {R : Nat} {xs : List Int} (i : Int) (w : World) (h : RefL w R xs) (hl : xs.length ≤ 1024) :
    Calls Try.prog 24 #[.pointer (some ⟨R, 0, none⟩), .int .i64 i] w fun e w' => e = .returned (.int .i64 (putE xs i)) ∧ RefL w' R (putX xs i) ∧ But [R] w w' := by
  unfold putE putX
  by_cases h1 : i < 0 ∨ 1024 ≤ i
  · rw [if_pos h1, if_pos h1]
    refine (rput_arg i h1 w).mono ?_
    rintro e w ⟨rfl, rfl⟩
    exact ⟨rfl, h, But.refl _ _⟩
  · rw [if_neg h1, if_neg h1]
    by_cases h2 : i ∈ xs
    · rw [if_pos h2, if_pos h2]
      refine (rput_have i w h hl h2 (by omega) (by omega)).mono ?_
      rintro e w ⟨rfl, rfl⟩
      exact ⟨rfl, h, But.refl _ _⟩
    · rw [if_neg h2, if_neg h2]
      have hat := at_any i w h hl
      rw [atV_not h2] at hat
      obtain ⟨sv, h3, h4⟩ := id h
      obtain ⟨c0, f0⟩ := cell1 h3
      rcases h4.2 with ⟨rfl, h0⟩ | ⟨g, cap, cur, rfl, _⟩
      · obtain rfl : xs = [] := List.length_eq_zero_iff.mp h0
        refine (rput_nil i w hat (by omega) (by omega) c0 f0 h.lt).mono ?_
        rintro e w' ⟨rfl, w1, sv', h5, h6, h7⟩
        exact ⟨rfl, h.of_set h5 h6 h7⟩
      · refine (rput_row i w hat (by omega) (by omega) c0 f0 h.lt h4 hl).mono ?_
        rintro e w' ⟨rfl, w1, sv', h5, h6, h7⟩
        exact ⟨rfl, h.of_set h5 (by rw [I64_snoc]; simpa using h6) h7⟩
end Go.Proofs.Ytkpnkhakjgfgfaa.Lq
