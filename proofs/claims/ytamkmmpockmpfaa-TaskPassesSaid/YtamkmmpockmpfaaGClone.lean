/-
  The walks of slices.Clone, of five kinds of rows: another row, in a block of the call's own.
-/
import Derived.Lib.LazyBuf
import Derived.Test.YtamkmmpockmpfaaGSame
namespace Go.Proofs.Ytamkmmpockmpfaa
open Go.RowKit

theorem owns_keep {w w' : World} {base n s : Nat} {e : TypeId} {v : Value} {xs : List Value} (h : w.ownsRow base e s v n xs) (hk : ∀ (k : Nat) (cs : Array Value) (z : Nat × Nat), base ≤ k → w.heap[k]? = some (.cells cs e z) → w'.heap[k]? = w.heap[k]?) : w'.ownsRow base e s v n xs := by
  refine ⟨h.1, ?_⟩
  rcases h.2 with h2 | ⟨g, cap, cur, h1, h2, h3, h4⟩
  · exact .inl h2
  · exact .inr ⟨g, cap, cur, h1, h2, (hk g cur _ h2 h3).trans h3, h4⟩
theorem owns_fresh {w w' : World} {base n s : Nat} {e : TypeId} {v : Value} {xs : List Value} (h : w.ownsRow base e s v n xs) (hb : Below w.heap.size w w') : w'.ownsRow base e s v n xs :=
  owns_keep h fun k _ _ _ hk => hb.block k (Array.getElem?_eq_some_iff.1 hk).1
theorem owns_base {w : World} {base base' n s : Nat} {e : TypeId} {v : Value} {xs : List Value} (h : w.ownsRow base e s v n xs) (hb : base' ≤ base) : w.ownsRow base' e s v n xs := by
  refine ⟨h.1, ?_⟩
  rcases h.2 with h2 | ⟨g, cap, cur, h1, h2, h3, h4⟩
  · exact .inl h2
  · exact .inr ⟨g, cap, cur, h1, by omega, h3, h4⟩
theorem owns_slice {w : World} {base n s : Nat} {e : TypeId} {v : Value} {xs : List Value} (h : w.ownsRow base e s v n xs) : ∃ a c, v = .slice a n c := by
  rcases h.2 with ⟨rfl, rfl⟩ | ⟨g, cap, cur, rfl, _⟩
  · exact ⟨none, 0, rfl⟩
  · exact ⟨_, cap, rfl⟩
theorem int_one (l : List Int) : ∀ u ∈ I64 l, u.oneCell' = true := by
  intro u hu; obtain ⟨x, _, rfl⟩ := List.mem_map.1 hu; rfl
theorem ins_one (l : List In) : ∀ u ∈ l.flatMap In.cellsL, u.oneCell' = true := by
  intro u hu; obtain ⟨x, _, hu⟩ := List.mem_flatMap.1 hu
  simp only [In.cellsL, List.mem_cons, List.not_mem_nil, or_false] at hu
  rcases hu with rfl | rfl | rfl | rfl | rfl <;> rfl
theorem case_one (l : List Cas) : ∀ u ∈ l.flatMap Cas.cellsL, u.oneCell' = true := by
  intro u hu; obtain ⟨x, _, hu⟩ := List.mem_flatMap.1 hu
  simp only [Cas.cellsL, List.mem_cons, List.not_mem_nil, or_false] at hu
  rcases hu with rfl | rfl | rfl | rfl <;> rfl

theorem infoInt : (Try.prog.info? 3).map (fun i => (i.zero, i.size, i.bytes)) = some (some (.int .i64 0), 1, 8) := by kernel_rfl
set_option maxHeartbeats 800000 in
theorem cloneInt_any {lo hi n : Nat} {v : Value} {xs : List Value} (w : World) (h : Flat lo hi w 1 n v xs) (t : hi ≤ w.heap.size) (h1 : ∀ u ∈ xs, u.oneCell' = true) (hn : n ≤ 1000000) :
    Calls Try.prog 34 #[v] w fun e w' => ∃ v', e = .returned v' ∧ w'.ownsRow w.heap.size 3 1 v' n xs ∧ Below w.heap.size w w' := by
  obtain ⟨hl, a, cap, rfl, hc⟩ := h
  have qT : ∀ w : World, (binOp .eql 22 (.slice a n cap) (.slice none 0 0)).run Try.prog w = .ok (.bool a.isNone) w := fun w => Lib.run_eql_slice_nil w 22 3 a n cap 0 0 Try.underlying22
  cases a with
  | none =>
    rcases hc with rfl | ⟨b, off, hc, _⟩
    · obtain rfl : xs = [] := List.eq_nil_of_length_eq_zero (by simpa using hl)
      go_enter Try.func34, Try.ntmps34
      go_wp2_with fail
      go_ret
      exact ⟨_, rfl, World.ownsRow_nil _ _ _ _, Below.refl _ _⟩
    · cases hc
  | some ad =>
    obtain ⟨i0, hi, hz0, hz1, hz2⟩ := info_parts infoInt
    have hb0 : Below w.heap.size w (w.alloc (.cells #[] 3)) := (Below.refl _ w).alloc (Nat.le_refl _) _
    have hcs : ∀ j u, xs[j]? = some u → (w.alloc (.cells #[] 3)).cell? (ad.add j) = some u := fun j u hj => by
      rcases hc with rfl | ⟨b, off, he, _, hb, hc⟩
      · have := (List.getElem?_eq_some_iff.1 hj).1; omega
      · simp only [Option.some.injEq] at he
        subst he
        have := (hb0.cell (p := ⟨b, off + j, none⟩) (Nat.lt_of_lt_of_le hb t)).trans (hc j u hj)
        rw [show Addr.add ⟨b, off, none⟩ j = ⟨b, off + j, none⟩ by simp [Addr.add], this]
    go_enter Try.func34, Try.ntmps34
    go_wp2_with (at_builtin; refine wpList_append_own _ rfl _ _ 22 rfl w.heap.size 3 i0 (.int .i64 0) 1 8 Try.underlying22 hi hz0 hz1 hz2 rfl (by decide) _ 0 [] rfl (World.ownsRow_made w #[] 0 (Nat.le_refl _) (by decide) rfl) ad n cap xs rfl ?c0 ?c1 ?c2 ?c3 ?c4 ?c5 ?_)
    case c0 => omega
    case c1 => exact hcs
    case c2 => exact h1
    case c3 => unfold maxLen; omega
    case c4 => omega
    try (case c5 => first | exact Nat.le_refl _ | omega | (simp; done) | (simp; omega))
    intro v1 w1 hown hgrow hnil
    have hown' : w1.ownsRow w.heap.size 3 1 v1 n xs := by simpa using hown
    have hb1 : Below w.heap.size w w1 := hb0.trans ⟨hgrow.os, hgrow.tape, hgrow.output, Nat.le_trans (by simp) hgrow.size, fun k hk => hgrow.block k (by simp; omega) (fun e => by have : k = w.heap.size := Option.some.inj e; omega)⟩
    obtain ⟨a', c', rfl⟩ := owns_slice hown'
    clear hown hgrow hnil hc hcs
    go_wp2_with fail
    go_ret
    exact ⟨_, rfl, hown', hb1⟩

theorem infoIns : (Try.prog.info? 77).map (fun i => (i.zero, i.size, i.bytes)) = some (some (.agg #[.int .u8 0, .int .i64 0, .int .i64 0, .int .i64 0, .int .i64 0]), 5, 40) := by kernel_rfl
set_option maxHeartbeats 800000 in
theorem cloneIns_any {lo hi n : Nat} {v : Value} {xs : List Value} (w : World) (h : Flat lo hi w 5 n v xs) (t : hi ≤ w.heap.size) (h1 : ∀ u ∈ xs, u.oneCell' = true) (hn : n ≤ 1000000) :
    Calls Try.prog 36 #[v] w fun e w' => ∃ v', e = .returned v' ∧ w'.ownsRow w.heap.size 77 5 v' n xs ∧ Below w.heap.size w w' := by
  obtain ⟨hl, a, cap, rfl, hc⟩ := h
  have qT : ∀ w : World, (binOp .eql 49 (.slice a n cap) (.slice none 0 0)).run Try.prog w = .ok (.bool a.isNone) w := fun w => Lib.run_eql_slice_nil w 49 77 a n cap 0 0 Try.underlying49
  cases a with
  | none =>
    rcases hc with rfl | ⟨b, off, hc, _⟩
    · obtain rfl : xs = [] := List.eq_nil_of_length_eq_zero (by simpa using hl)
      go_enter Try.func36, Try.ntmps36
      go_wp2_with fail
      go_ret
      exact ⟨_, rfl, World.ownsRow_nil _ _ _ _, Below.refl _ _⟩
    · cases hc
  | some ad =>
    obtain ⟨i0, hi, hz0, hz1, hz2⟩ := info_parts infoIns
    have hb0 : Below w.heap.size w (w.alloc (.cells #[] 77)) := (Below.refl _ w).alloc (Nat.le_refl _) _
    have hcs : ∀ j u, xs[j]? = some u → (w.alloc (.cells #[] 77)).cell? (ad.add j) = some u := fun j u hj => by
      rcases hc with rfl | ⟨b, off, he, _, hb, hc⟩
      · have := (List.getElem?_eq_some_iff.1 hj).1; omega
      · simp only [Option.some.injEq] at he
        subst he
        have := (hb0.cell (p := ⟨b, off + j, none⟩) (Nat.lt_of_lt_of_le hb t)).trans (hc j u hj)
        rw [show Addr.add ⟨b, off, none⟩ j = ⟨b, off + j, none⟩ by simp [Addr.add], this]
    go_enter Try.func36, Try.ntmps36
    go_wp2_with (at_builtin; refine wpList_append_own _ rfl _ _ 49 rfl w.heap.size 77 i0 (.agg #[.int .u8 0, .int .i64 0, .int .i64 0, .int .i64 0, .int .i64 0]) 5 40 Try.underlying49 hi hz0 hz1 hz2 rfl (by decide) _ 0 [] rfl (World.ownsRow_made w #[] 0 (Nat.le_refl _) (by decide) rfl) ad n cap xs rfl ?c0 ?c1 ?c2 ?c3 ?c4 ?c5 ?_)
    case c0 => omega
    case c1 => exact hcs
    case c2 => exact h1
    case c3 => unfold maxLen; omega
    case c4 => omega
    try (case c5 => first | exact Nat.le_refl _ | omega | (simp; done) | (simp; omega))
    intro v1 w1 hown hgrow hnil
    have hown' : w1.ownsRow w.heap.size 77 5 v1 n xs := by simpa using hown
    have hb1 : Below w.heap.size w w1 := hb0.trans ⟨hgrow.os, hgrow.tape, hgrow.output, Nat.le_trans (by simp) hgrow.size, fun k hk => hgrow.block k (by simp; omega) (fun e => by have : k = w.heap.size := Option.some.inj e; omega)⟩
    obtain ⟨a', c', rfl⟩ := owns_slice hown'
    clear hown hgrow hnil hc hcs
    go_wp2_with fail
    go_ret
    exact ⟨_, rfl, hown', hb1⟩

theorem infoCase : (Try.prog.info? 75).map (fun i => (i.zero, i.size, i.bytes)) = some (some (.agg #[.bool false, .int .i64 0, .int .i64 0, .int .i64 0]), 4, 32) := by kernel_rfl
set_option maxHeartbeats 800000 in
theorem cloneCase_any {lo hi n : Nat} {v : Value} {xs : List Value} (w : World) (h : Flat lo hi w 4 n v xs) (t : hi ≤ w.heap.size) (h1 : ∀ u ∈ xs, u.oneCell' = true) (hn : n ≤ 1000000) :
    Calls Try.prog 51 #[v] w fun e w' => ∃ v', e = .returned v' ∧ w'.ownsRow w.heap.size 75 4 v' n xs ∧ Below w.heap.size w w' := by
  obtain ⟨hl, a, cap, rfl, hc⟩ := h
  have qT : ∀ w : World, (binOp .eql 39 (.slice a n cap) (.slice none 0 0)).run Try.prog w = .ok (.bool a.isNone) w := fun w => Lib.run_eql_slice_nil w 39 75 a n cap 0 0 Try.underlying39
  cases a with
  | none =>
    rcases hc with rfl | ⟨b, off, hc, _⟩
    · obtain rfl : xs = [] := List.eq_nil_of_length_eq_zero (by simpa using hl)
      go_enter Try.func51, Try.ntmps51
      go_wp2_with fail
      go_ret
      exact ⟨_, rfl, World.ownsRow_nil _ _ _ _, Below.refl _ _⟩
    · cases hc
  | some ad =>
    obtain ⟨i0, hi, hz0, hz1, hz2⟩ := info_parts infoCase
    have hb0 : Below w.heap.size w (w.alloc (.cells #[] 75)) := (Below.refl _ w).alloc (Nat.le_refl _) _
    have hcs : ∀ j u, xs[j]? = some u → (w.alloc (.cells #[] 75)).cell? (ad.add j) = some u := fun j u hj => by
      rcases hc with rfl | ⟨b, off, he, _, hb, hc⟩
      · have := (List.getElem?_eq_some_iff.1 hj).1; omega
      · simp only [Option.some.injEq] at he
        subst he
        have := (hb0.cell (p := ⟨b, off + j, none⟩) (Nat.lt_of_lt_of_le hb t)).trans (hc j u hj)
        rw [show Addr.add ⟨b, off, none⟩ j = ⟨b, off + j, none⟩ by simp [Addr.add], this]
    go_enter Try.func51, Try.ntmps51
    go_wp2_with (at_builtin; refine wpList_append_own _ rfl _ _ 39 rfl w.heap.size 75 i0 (.agg #[.bool false, .int .i64 0, .int .i64 0, .int .i64 0]) 4 32 Try.underlying39 hi hz0 hz1 hz2 rfl (by decide) _ 0 [] rfl (World.ownsRow_made w #[] 0 (Nat.le_refl _) (by decide) rfl) ad n cap xs rfl ?c0 ?c1 ?c2 ?c3 ?c4 ?c5 ?_)
    case c0 => omega
    case c1 => exact hcs
    case c2 => exact h1
    case c3 => unfold maxLen; omega
    case c4 => omega
    try (case c5 => first | exact Nat.le_refl _ | omega | (simp; done) | (simp; omega))
    intro v1 w1 hown hgrow hnil
    have hown' : w1.ownsRow w.heap.size 75 4 v1 n xs := by simpa using hown
    have hb1 : Below w.heap.size w w1 := hb0.trans ⟨hgrow.os, hgrow.tape, hgrow.output, Nat.le_trans (by simp) hgrow.size, fun k hk => hgrow.block k (by simp; omega) (fun e => by have : k = w.heap.size := Option.some.inj e; omega)⟩
    obtain ⟨a', c', rfl⟩ := owns_slice hown'
    clear hown hgrow hnil hc hcs
    go_wp2_with fail
    go_ret
    exact ⟨_, rfl, hown', hb1⟩

theorem infoCode : (Try.prog.info? 49).map (fun i => (i.zero, i.size, i.bytes)) = some (some (.slice none 0 0), 1, 24) := by kernel_rfl
set_option maxHeartbeats 800000 in
theorem cloneCode_any {lo hi n : Nat} {v : Value} {xs : List Value} (w : World) (h : Flat lo hi w 1 n v xs) (t : hi ≤ w.heap.size) (h1 : ∀ u ∈ xs, u.oneCell' = true) (hn : n ≤ 1000000) :
    Calls Try.prog 49 #[v] w fun e w' => ∃ v', e = .returned v' ∧ w'.ownsRow w.heap.size 49 1 v' n xs ∧ Below w.heap.size w w' := by
  obtain ⟨hl, a, cap, rfl, hc⟩ := h
  have qT : ∀ w : World, (binOp .eql 23 (.slice a n cap) (.slice none 0 0)).run Try.prog w = .ok (.bool a.isNone) w := fun w => Lib.run_eql_slice_nil w 23 49 a n cap 0 0 Try.underlying23
  cases a with
  | none =>
    rcases hc with rfl | ⟨b, off, hc, _⟩
    · obtain rfl : xs = [] := List.eq_nil_of_length_eq_zero (by simpa using hl)
      go_enter Try.func49, Try.ntmps49
      go_wp2_with fail
      go_ret
      exact ⟨_, rfl, World.ownsRow_nil _ _ _ _, Below.refl _ _⟩
    · cases hc
  | some ad =>
    obtain ⟨i0, hi, hz0, hz1, hz2⟩ := info_parts infoCode
    have hb0 : Below w.heap.size w (w.alloc (.cells #[] 49)) := (Below.refl _ w).alloc (Nat.le_refl _) _
    have hcs : ∀ j u, xs[j]? = some u → (w.alloc (.cells #[] 49)).cell? (ad.add j) = some u := fun j u hj => by
      rcases hc with rfl | ⟨b, off, he, _, hb, hc⟩
      · have := (List.getElem?_eq_some_iff.1 hj).1; omega
      · simp only [Option.some.injEq] at he
        subst he
        have := (hb0.cell (p := ⟨b, off + j, none⟩) (Nat.lt_of_lt_of_le hb t)).trans (hc j u hj)
        rw [show Addr.add ⟨b, off, none⟩ j = ⟨b, off + j, none⟩ by simp [Addr.add], this]
    go_enter Try.func49, Try.ntmps49
    go_wp2_with (at_builtin; refine wpList_append_own _ rfl _ _ 23 rfl w.heap.size 49 i0 (.slice none 0 0) 1 24 Try.underlying23 hi hz0 hz1 hz2 rfl (by decide) _ 0 [] rfl (World.ownsRow_made w #[] 0 (Nat.le_refl _) (by decide) rfl) ad n cap xs rfl ?c0 ?c1 ?c2 ?c3 ?c4 ?c5 ?_)
    case c0 => omega
    case c1 => exact hcs
    case c2 => exact h1
    case c3 => unfold maxLen; omega
    case c4 => omega
    try (case c5 => first | exact Nat.le_refl _ | omega | (simp; done) | (simp; omega))
    intro v1 w1 hown hgrow hnil
    have hown' : w1.ownsRow w.heap.size 49 1 v1 n xs := by simpa using hown
    have hb1 : Below w.heap.size w w1 := hb0.trans ⟨hgrow.os, hgrow.tape, hgrow.output, Nat.le_trans (by simp) hgrow.size, fun k hk => hgrow.block k (by simp; omega) (fun e => by have : k = w.heap.size := Option.some.inj e; omega)⟩
    obtain ⟨a', c', rfl⟩ := owns_slice hown'
    clear hown hgrow hnil hc hcs
    go_wp2_with fail
    go_ret
    exact ⟨_, rfl, hown', hb1⟩

theorem infoSite : (Try.prog.info? 41).map (fun i => (i.zero, i.size, i.bytes)) = some (some (.agg #[.slice none 0 0, .bool false]), 2, 32) := by kernel_rfl
set_option maxHeartbeats 800000 in
theorem cloneSite_any {lo hi n : Nat} {v : Value} {xs : List Value} (w : World) (h : Flat lo hi w 2 n v xs) (t : hi ≤ w.heap.size) (h1 : ∀ u ∈ xs, u.oneCell' = true) (hn : n ≤ 1000000) :
    Calls Try.prog 50 #[v] w fun e w' => ∃ v', e = .returned v' ∧ w'.ownsRow w.heap.size 41 2 v' n xs ∧ Below w.heap.size w w' := by
  obtain ⟨hl, a, cap, rfl, hc⟩ := h
  have qT : ∀ w : World, (binOp .eql 24 (.slice a n cap) (.slice none 0 0)).run Try.prog w = .ok (.bool a.isNone) w := fun w => Lib.run_eql_slice_nil w 24 41 a n cap 0 0 Try.underlying24
  cases a with
  | none =>
    rcases hc with rfl | ⟨b, off, hc, _⟩
    · obtain rfl : xs = [] := List.eq_nil_of_length_eq_zero (by simpa using hl)
      go_enter Try.func50, Try.ntmps50
      go_wp2_with fail
      go_ret
      exact ⟨_, rfl, World.ownsRow_nil _ _ _ _, Below.refl _ _⟩
    · cases hc
  | some ad =>
    obtain ⟨i0, hi, hz0, hz1, hz2⟩ := info_parts infoSite
    have hb0 : Below w.heap.size w (w.alloc (.cells #[] 41)) := (Below.refl _ w).alloc (Nat.le_refl _) _
    have hcs : ∀ j u, xs[j]? = some u → (w.alloc (.cells #[] 41)).cell? (ad.add j) = some u := fun j u hj => by
      rcases hc with rfl | ⟨b, off, he, _, hb, hc⟩
      · have := (List.getElem?_eq_some_iff.1 hj).1; omega
      · simp only [Option.some.injEq] at he
        subst he
        have := (hb0.cell (p := ⟨b, off + j, none⟩) (Nat.lt_of_lt_of_le hb t)).trans (hc j u hj)
        rw [show Addr.add ⟨b, off, none⟩ j = ⟨b, off + j, none⟩ by simp [Addr.add], this]
    go_enter Try.func50, Try.ntmps50
    go_wp2_with (at_builtin; refine wpList_append_own _ rfl _ _ 24 rfl w.heap.size 41 i0 (.agg #[.slice none 0 0, .bool false]) 2 32 Try.underlying24 hi hz0 hz1 hz2 rfl (by decide) _ 0 [] rfl (World.ownsRow_made w #[] 0 (Nat.le_refl _) (by decide) rfl) ad n cap xs rfl ?c0 ?c1 ?c2 ?c3 ?c4 ?c5 ?_)
    case c0 => omega
    case c1 => exact hcs
    case c2 => exact h1
    case c3 => unfold maxLen; omega
    case c4 => omega
    try (case c5 => first | exact Nat.le_refl _ | omega | (simp; done) | (simp; omega))
    intro v1 w1 hown hgrow hnil
    have hown' : w1.ownsRow w.heap.size 41 2 v1 n xs := by simpa using hown
    have hb1 : Below w.heap.size w w1 := hb0.trans ⟨hgrow.os, hgrow.tape, hgrow.output, Nat.le_trans (by simp) hgrow.size, fun k hk => hgrow.block k (by simp; omega) (fun e => by have : k = w.heap.size := Option.some.inj e; omega)⟩
    obtain ⟨a', c', rfl⟩ := owns_slice hown'
    clear hown hgrow hnil hc hcs
    go_wp2_with fail
    go_ret
    exact ⟨_, rfl, hown', hb1⟩
end Go.Proofs.Ytamkmmpockmpfaa
