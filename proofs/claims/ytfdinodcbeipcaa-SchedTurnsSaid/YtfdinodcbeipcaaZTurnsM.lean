/-
  What the law SchedTurns holds at the head of a round: a scheduler and three rows of the call's own; who is where, pure; the walk of its look.
-/
import Derived.Deep.CutRange
import Derived.Deep.Light
import Derived.Deep.RegionHeld3
import Derived.Deep.DrawnRows
import Derived.Test.YtfdinodcbeipcaaZOwn
namespace Go.Proofs.Ytfdinodcbeipcaa
open Go.RowKit

/-! ### Who is where -/
/-- Who is ready (s.l), at work, away; ended so many. -/
structure Inv (s : Ss) (work away : List Int) (ended : Nat) : Prop where
  busy : s.busy = work.length
  live : s.live = s.l.length + work.length + away.length
  made : s.made = s.live + ended
  one : ∀ x, s.l.count x + work.count x + away.count x ≤ 1
  rngW : ∀ x ∈ work, 0 ≤ x ∧ x < (s.made : Int)
  rngA : ∀ x ∈ away, 0 ≤ x ∧ x < (s.made : Int)

section
variable {s : Ss} {work away : List Int} {ended : Nat}
theorem inv_new (m : Nat) : Inv (Ss.new m) [] [] 0 := ⟨rfl, rfl, rfl, by simp [Ss.new], by simp, by simp⟩
theorem Inv.small (h : Inv s work away ended) (hg : s.Good) : s.l.length + work.length + away.length + ended ≤ 32 := by
  have := h.made; have := h.live; have := hg.made; have := hg.most; omega
theorem inv_make (h : Inv s work away ended) (hg : s.Good) (hm : s.made ≠ s.m) : s.makeV = (s.made : Int) ∧ s.makeE = 0 ∧ s.make.l = s.l ++ [(s.made : Int)] ∧ Inv s.make work away ended := by
  rw [Ss.makeV, Ss.makeE, Ss.make, if_neg hm, if_neg hm, if_neg hm]
  refine ⟨rfl, rfl, rfl, h.busy, ?_, ?_, fun x => ?_, fun x hx => ?_, fun x hx => ?_⟩
  · have := h.live; simp; omega
  · have := h.made; show s.made + 1 = s.live + 1 + ended; omega
  · have h1 := h.one x
    show (s.l ++ [(s.made : Int)]).count x + work.count x + away.count x ≤ 1
    rw [List.count_append, List.count_singleton]
    split
    · rename_i e
      simp only [beq_iff_eq] at e
      subst e
      have a1 : s.l.count (s.made : Int) = 0 := List.count_eq_zero.2 (fun hx => by have := hg.rng _ hx; omega)
      have a2 : work.count (s.made : Int) = 0 := List.count_eq_zero.2 (fun hx => by have := h.rngW _ hx; omega)
      have a3 : away.count (s.made : Int) = 0 := List.count_eq_zero.2 (fun hx => by have := h.rngA _ hx; omega)
      omega
    · omega
  · have := h.rngW x hx; show 0 ≤ x ∧ x < ((s.made + 1 : Nat) : Int); omega
  · have := h.rngA x hx; show 0 ≤ x ∧ x < ((s.made + 1 : Nat) : Int); omega
theorem not_make (hm : s.made = s.m) : s.makeE = 4 ∧ s.make = s := by
  rw [Ss.makeE, Ss.make, if_pos hm, if_pos hm]; exact ⟨rfl, rfl⟩
theorem inv_next (h : Inv s work away ended) (hg : s.Good) (h0 : ∀ x ∈ s.l, 0 ≤ x) {x : Int} {t : List Int} (hl : s.l = x :: t) : s.first = x ∧ s.what = 1 ∧ s.next.l = t ∧ Inv s.next (work ++ [x]) away ended := by
  have hne : s.l ≠ [] := by rw [hl]; simp
  rw [Ss.next, if_neg hne]
  refine ⟨by rw [Ss.first, hl]; rfl, Ss.what_task hne, by rw [hl]; rfl, by have := h.busy; simp; omega, ?_, h.made, fun y => ?_, fun y hy => ?_, h.rngA⟩
  · have := h.live; rw [hl] at this; show s.live = s.l.tail.length + _ + _; rw [hl]; simp at this ⊢; omega
  · have h1 := h.one y
    show s.l.tail.count y + (work ++ [x]).count y + away.count y ≤ 1
    rw [hl] at h1 ⊢
    rw [List.count_cons] at h1
    rw [List.count_append, List.count_singleton, List.tail_cons]
    omega
  · rcases List.mem_append.1 hy with hy | hy
    · exact h.rngW y hy
    · rw [List.mem_singleton.1 hy]
      have hm : x ∈ s.l := by rw [hl]; simp
      exact ⟨h0 x hm, hg.rng x hm⟩
theorem not_next (hl : s.l = []) : s.first = 0 ∧ s.next = s ∧ s.what ≠ 1 := ⟨by rw [Ss.first, hl]; rfl, by rw [Ss.next, if_pos hl], Ss.what_not hl⟩
theorem inv_out {p q : List Int} {n : Int} (h : Inv s (p ++ n :: q) away ended) : n ∉ s.l ∧ s.busy ≠ 0 ∧ s.live ≠ 0 ∧ 0 ≤ n ∧ n < (s.made : Int) := by
  have h1 := h.one n
  have h2 : 0 < (p ++ n :: q).count n := List.count_pos_iff.2 (by simp)
  have h3 := h.rngW n (by simp)
  have h4 := h.busy
  have h5 := h.live
  simp only [List.length_append, List.length_cons] at h4 h5
  exact ⟨List.count_eq_zero.1 (by omega), by omega, by omega, h3.1, h3.2⟩
theorem inv_back {p q : List Int} {n : Int} (h : Inv s (p ++ n :: q) away ended) : s.backE n = 0 ∧ (s.back n).l = s.l ++ [n] ∧ Inv (s.back n) (p ++ q) away ended := by
  obtain ⟨h1, h2, h3, h4, h5⟩ := inv_out h
  have e : s.backE n = 0 := by rw [Ss.backE, if_neg h2, Ss.pushE, if_neg (by omega), if_neg h1]
  rw [Ss.back, if_pos e]
  have hb := h.busy
  have hl := h.live
  simp only [List.length_append, List.length_cons] at hb hl
  refine ⟨e, rfl, ?_, ?_, h.made, fun x => ?_, fun x hx => h.rngW x (by simp at hx ⊢; rcases hx with hx | hx <;> simp [hx]), h.rngA⟩
  · show s.busy - 1 = _; simp; omega
  · show s.live = (s.l ++ [n]).length + (p ++ q).length + away.length; simp; omega
  · have h6 := h.one x
    show (s.l ++ [n]).count x + (p ++ q).count x + away.count x ≤ 1
    simp only [List.count_append, List.count_cons, List.count_nil] at h6 ⊢
    omega
theorem inv_leave {p q : List Int} {n : Int} (h : Inv s (p ++ n :: q) away ended) : s.fewE false = 0 ∧ s.leave.l = s.l ∧ Inv s.leave (p ++ q) (away ++ [n]) ended := by
  obtain ⟨h1, h2, h3, h4, h5⟩ := inv_out h
  rw [Ss.leave, if_neg h2]
  have hb := h.busy
  have hl := h.live
  simp only [List.length_append, List.length_cons] at hb hl
  refine ⟨by rw [Ss.fewE, if_neg (by simp [h2])], rfl, ?_, ?_, h.made, fun x => ?_, fun x hx => h.rngW x (by simp at hx ⊢; rcases hx with hx | hx <;> simp [hx]), fun x hx => ?_⟩
  · show s.busy - 1 = _; simp; omega
  · show s.live = s.l.length + (p ++ q).length + (away ++ [n]).length; simp; omega
  · have h6 := h.one x
    show s.l.count x + (p ++ q).count x + (away ++ [n]).count x ≤ 1
    simp only [List.count_append, List.count_cons, List.count_nil] at h6 ⊢
    omega
  · rcases List.mem_append.1 hx with hx | hx
    · exact h.rngA x hx
    · rw [List.mem_singleton.1 hx]; exact ⟨h4, h5⟩
theorem inv_end {p q : List Int} {n : Int} (h : Inv s (p ++ n :: q) away ended) : s.fewE true = 0 ∧ s.fin.l = s.l ∧ Inv s.fin (p ++ q) away (ended + 1) := by
  obtain ⟨h1, h2, h3, h4, h5⟩ := inv_out h
  rw [Ss.fin, if_neg (by omega)]
  have hb := h.busy
  have hl := h.live
  have hm := h.made
  simp only [List.length_append, List.length_cons] at hb hl
  refine ⟨by rw [Ss.fewE, if_neg (by simp [h2, h3])], rfl, ?_, ?_, ?_, fun x => ?_, fun x hx => h.rngW x (by simp at hx ⊢; rcases hx with hx | hx <;> simp [hx]), h.rngA⟩
  · show s.busy - 1 = _; simp; omega
  · show s.live - 1 = s.l.length + (p ++ q).length + away.length; simp; omega
  · show s.made = s.live - 1 + (ended + 1); omega
  · have h6 := h.one x
    show s.l.count x + (p ++ q).count x + away.count x ≤ 1
    simp only [List.count_append, List.count_cons] at h6 ⊢
    omega
theorem inv_push {y : Int} {t : List Int} (h : Inv s work (y :: t) ended) : s.pushE y = 0 ∧ (s.push y).l = s.l ++ [y] ∧ Inv (s.push y) work t ended := by
  have h1 := h.one y
  have h2 : 0 < (y :: t).count y := List.count_pos_iff.2 (by simp)
  have h3 := h.rngA y (by simp)
  have h4 : y ∉ s.l := List.count_eq_zero.1 (by omega)
  have e : s.pushE y = 0 := by rw [Ss.pushE, if_neg (by omega), if_neg h4]
  rw [Ss.push, if_pos e]
  have hl := h.live
  simp only [List.length_cons] at hl
  refine ⟨e, rfl, h.busy, ?_, h.made, fun x => ?_, h.rngW, fun x hx => h.rngA x (by simp [hx])⟩
  · show s.live = (s.l ++ [y]).length + work.length + t.length; simp; omega
  · have h6 := h.one x
    show (s.l ++ [y]).count x + work.count x + t.count x ≤ 1
    simp only [List.count_append, List.count_cons, List.count_nil] at h6 ⊢
    omega
end

/-! ### In memory -/
def Apart (u v : Value) : Prop := ∀ g ∈ blks u, g ∉ blks v
/-- A scheduler that is s, and three rows of the call's own, each in a block of its own. -/
structure Sea (w W : World) (S F : Nat) (s : Ss) (v1 v2 v3 : Value) (l1 l2 l3 : List Int) : Prop where
  mine : Mys w W S F s
  o1 : Own W w.heap.size v1 l1
  o2 : Own W w.heap.size v2 l2
  o3 : Own W w.heap.size v3 l3
  a12 : Apart v1 v2
  a13 : Apart v1 v3
  a23 : Apart v2 v3
section
variable {w W W' : World} {S F : Nat} {s t : Ss} {v1 v2 v3 : Value} {l1 l2 l3 : List Int}
theorem Apart.symm {u v : Value} (h : Apart u v) : Apart v u := fun g h1 h2 => h g h2 h1
/-- A new value for u stays apart from v. -/
theorem Apart.new {u u' v : Value} {base : Nat} {xs : List Int} (h : Apart u v) (hv : Own W base v xs) (hn : ∀ g ∈ blks u', g ∈ blks u ∨ W.heap.size ≤ g) : Apart u' v := fun g h1 h2 => by
  rcases hn g h1 with h3 | h3
  · exact h g h3 h2
  · have := hv.lt g h2; omega
theorem Own.notS {base : Nat} {v : Value} {xs : List Int} (h : Own W base v xs) (hm : Scd W S F s) : S ∉ blks v ∧ F ∉ blks v := by
  obtain ⟨cs, hF⟩ := hm.row.typ
  refine ⟨fun e => ?_, fun e => ?_⟩
  · obtain ⟨ds, hd⟩ := h.typ _ e; rw [hm.head] at hd; simp at hd
  · obtain ⟨ds, hd⟩ := h.typ _ e; rw [hF] at hd; simp at hd
theorem Sea.prog (h : Sea w W S F s v1 v2 v3 l1 l2 l3) (hm : Mys w W' S F t) (hb : But [S, F] W W') : Sea w W' S F t v1 v2 v3 l1 l2 l3 := by
  have hn : ∀ {v : Value} {xs : List Int}, Own W w.heap.size v xs → ∀ g ∈ blks v, g ∉ [S, F] := fun ho g hg hm' => by
    obtain ⟨n1, n2⟩ := ho.notS h.mine.scd
    simp only [List.mem_cons, List.not_mem_nil, or_false] at hm'
    rcases hm' with rfl | rfl
    · exact n1 hg
    · exact n2 hg
  exact ⟨hm, h.o1.keep hb (hn h.o1), h.o2.keep hb (hn h.o2), h.o3.keep hb (hn h.o3), h.a12, h.a13, h.a23⟩
theorem Sea.fresh (h : Sea w W S F s v1 v2 v3 l1 l2 l3) (hb : But [] W W') : Sea w W' S F s v1 v2 v3 l1 l2 l3 :=
  ⟨h.mine.fresh hb, h.o1.fresh hb, h.o2.fresh hb, h.o3.fresh hb, h.a12, h.a13, h.a23⟩
theorem Sea.drew (h : Sea w W S F s v1 v2 v3 l1 l2 l3) : Sea w W.drew S F s v1 v2 v3 l1 l2 l3 := h.fresh (But.refl [] W).drew
theorem Sea.drewN (h : Sea w W S F s v1 v2 v3 l1 l2 l3) (n : Nat) : Sea w (W.drewN n) S F s v1 v2 v3 l1 l2 l3 := h.fresh ((But.refl [] W).drewN n)
theorem Mys.row (hm : Mys w W S F s) {v : Value} {xs : List Int} (ho : Own W w.heap.size v xs) (hb : But (blks v) W W') : Mys w W' S F s :=
  hm.beside hb (ho.notS hm.scd).1 (ho.notS hm.scd).2 ho.ge
theorem Sea.turn1 (h : Sea w W S F s v1 v2 v3 l1 l2 l3) {v : Value} {l : List Int} (ho : Own W' w.heap.size v l) (hb : But (blks v1) W W') (hn : ∀ g ∈ blks v, g ∈ blks v1 ∨ W.heap.size ≤ g) : Sea w W' S F s v v2 v3 l l2 l3 :=
  ⟨h.mine.row h.o1 hb, ho, h.o2.keep hb h.a12.symm, h.o3.keep hb h.a13.symm, h.a12.new h.o2 hn, h.a13.new h.o3 hn, h.a23⟩
theorem Sea.turn2 (h : Sea w W S F s v1 v2 v3 l1 l2 l3) {v : Value} {l : List Int} (ho : Own W' w.heap.size v l) (hb : But (blks v2) W W') (hn : ∀ g ∈ blks v, g ∈ blks v2 ∨ W.heap.size ≤ g) : Sea w W' S F s v1 v v3 l1 l l3 :=
  ⟨h.mine.row h.o2 hb, h.o1.keep hb h.a12, ho, h.o3.keep hb h.a23.symm, (h.a12.symm.new h.o1 hn).symm, h.a13, h.a23.new h.o3 hn⟩
theorem Sea.turn3 (h : Sea w W S F s v1 v2 v3 l1 l2 l3) {v : Value} {l : List Int} (ho : Own W' w.heap.size v l) (hb : But (blks v3) W W') (hn : ∀ g ∈ blks v, g ∈ blks v3 ∨ W.heap.size ≤ g) : Sea w W' S F s v1 v2 v l1 l2 l :=
  ⟨h.mine.row h.o3 hb, h.o1.keep hb h.a13, h.o2.keep hb h.a23, ho, h.a12, (h.a13.symm.new h.o1 hn).symm, (h.a23.symm.new h.o2 hn).symm⟩
/-- A copy that was made. -/
theorem Sea.new1 (h : Sea w W S F s v1 v2 v3 l1 l2 l3) {v : Value} {l : List Int} (ho : Own W' W.heap.size v l) (hb : But [] W W') : Sea w W' S F s v v2 v3 l l2 l3 :=
  h.turn1 (ho.low h.mine.but.size) (hb.mono (by simp)) (fun g hg => .inr (ho.ge g hg))
theorem Sea.new2 (h : Sea w W S F s v1 v2 v3 l1 l2 l3) {v : Value} {l : List Int} (ho : Own W' W.heap.size v l) (hb : But [] W W') : Sea w W' S F s v1 v v3 l1 l l3 :=
  h.turn2 (ho.low h.mine.but.size) (hb.mono (by simp)) (fun g hg => .inr (ho.ge g hg))
theorem Sea.new3 (h : Sea w W S F s v1 v2 v3 l1 l2 l3) {v : Value} {l : List Int} (ho : Own W' W.heap.size v l) (hb : But [] W W') : Sea w W' S F s v1 v2 v l1 l2 l :=
  h.turn3 (ho.low h.mine.but.size) (hb.mono (by simp)) (fun g hg => .inr (ho.ge g hg))
theorem Sea.start (hm : Mys w W S F s) : Sea w W S F s (.slice none 0 0) (.slice none 0 0) (.slice none 0 0) [] [] [] :=
  have z : Apart (.slice none 0 0) (.slice none 0 0) := fun g h => by cases h
  ⟨hm, Own.nil _ _, Own.nil _ _, Own.nil _ _, z, z, z⟩
end

section
variable {w W : World} {S F : Nat} {s : Ss} {v1 v2 v3 : Value} {l1 l2 l3 : List Int}
theorem y_make {v e : Int} (h : Sea w W S F s v1 v2 v3 l1 l2 l3) (hv : s.makeV = v) (he : s.makeE = e) :
    Calls Try.prog 9 #[ptrO S] W fun e' w' => e' = .returned (.tuple #[.int .i64 v, .int .i64 e]) ∧ Sea w w' S F s.make v1 v2 v3 l1 l2 l3 := by
  subst hv he
  exact (zmake_any W h.mine.scd).mono fun _ _ ⟨h1, h2, h3⟩ => ⟨h1, h.prog (h.mine.turn h2 h3) h3⟩
theorem y_next {v e : Int} (h : Sea w W S F s v1 v2 v3 l1 l2 l3) (hb : s.busy < 1000000000) (hv : s.first = v) (he : s.what = e) :
    Calls Try.prog 11 #[ptrO S] W fun e' w' => e' = .returned (.tuple #[.int .i64 v, .int .u8 e]) ∧ Sea w w' S F s.next v1 v2 v3 l1 l2 l3 := by
  subst hv he
  exact (znext_any W h.mine.scd hb).mono fun _ _ ⟨h1, h2, h3⟩ => ⟨h1, h.prog (h.mine.turn h2 h3) h3⟩
theorem y_push {e : Int} (k : Int) (h : Sea w W S F s v1 v2 v3 l1 l2 l3) (he : s.pushE k = e) :
    Calls Try.prog 13 #[ptrO S, .int .i64 k] W fun e' w' => e' = .returned (.int .i64 e) ∧ Sea w w' S F (s.push k) v1 v2 v3 l1 l2 l3 := by
  subst he
  exact (zpush_any k W h.mine.scd).mono fun _ _ ⟨h1, h2, h3⟩ => ⟨h1, h.prog (h.mine.turn h2 h3) h3⟩
theorem y_back {e : Int} (k : Int) (h : Sea w W S F s v1 v2 v3 l1 l2 l3) (he : s.backE k = e) :
    Calls Try.prog 15 #[ptrO S, .int .i64 k] W fun e' w' => e' = .returned (.int .i64 e) ∧ Sea w w' S F (s.back k) v1 v2 v3 l1 l2 l3 := by
  subst he
  exact (zback_any k W h.mine.scd).mono fun _ _ ⟨h1, h2, h3⟩ => ⟨h1, h.prog (h.mine.turn h2 h3) h3⟩
theorem y_leave {e : Int} (h : Sea w W S F s v1 v2 v3 l1 l2 l3) (he : s.fewE false = e) :
    Calls Try.prog 17 #[ptrO S] W fun e' w' => e' = .returned (.int .i64 e) ∧ Sea w w' S F s.leave v1 v2 v3 l1 l2 l3 := by
  subst he
  exact (zleave_any W h.mine.scd).mono fun _ _ ⟨h1, h2, h3⟩ => ⟨h1, h.prog (h.mine.turn h2 h3) h3⟩
theorem y_end {e : Int} (h : Sea w W S F s v1 v2 v3 l1 l2 l3) (he : s.fewE true = e) :
    Calls Try.prog 19 #[ptrO S] W fun e' w' => e' = .returned (.int .i64 e) ∧ Sea w w' S F s.fin v1 v2 v3 l1 l2 l3 := by
  subst he
  exact (zend_any W h.mine.scd).mono fun _ _ ⟨h1, h2, h3⟩ => ⟨h1, h.prog (h.mine.turn h2 h3) h3⟩
theorem y_made (h : Sea w W S F s v1 v2 v3 l1 l2 l3) :
    Calls Try.prog 22 #[ptrO S] W fun e' w' => e' = .returned (.int .i64 (s.made : Int)) ∧ Sea w w' S F s v1 v2 v3 l1 l2 l3 :=
  (zmade_any W h.mine.scd).mono fun _ _ ⟨h1, h2⟩ => ⟨h1, h.fresh h2⟩
theorem y_live (h : Sea w W S F s v1 v2 v3 l1 l2 l3) :
    Calls Try.prog 23 #[ptrO S] W fun e' w' => e' = .returned (.int .i64 (s.live : Int)) ∧ Sea w w' S F s v1 v2 v3 l1 l2 l3 :=
  (zlive_any W h.mine.scd).mono fun _ _ ⟨h1, h2⟩ => ⟨h1, h.fresh h2⟩
theorem y_busy {n : Nat} (h : Sea w W S F s v1 v2 v3 l1 l2 l3) (hn : s.busy = n) :
    Calls Try.prog 24 #[ptrO S] W fun e' w' => e' = .returned (.int .i64 (n : Int)) ∧ Sea w w' S F s v1 v2 v3 l1 l2 l3 := by
  subst hn
  exact (zbusy_any W h.mine.scd).mono fun _ _ ⟨h1, h2⟩ => ⟨h1, h.fresh h2⟩
theorem y_list (h : Sea w W S F s v1 v2 v3 l1 l2 l3) :
    Calls Try.prog 26 #[ptrO S] W fun e' w' => ∃ v, e' = .returned v ∧ RowI w' v s.l ∧ Sea w w' S F s v1 v2 v3 l1 l2 l3 :=
  (zlist_any W h.mine.scd).mono fun _ _ ⟨v, h1, h2, h3⟩ => ⟨v, h1, RowI.of_owns h2, h.fresh h3⟩
theorem y_same {v : Value} {l : List Int} (h : Sea w W S F s v1 v2 v3 l l2 l3) (hl : l.length ≤ 32) (hv : RowI W v l) :
    Calls Try.prog 25 #[v, v1] W fun e' w' => e' = .returned (.bool true) ∧ Sea w w' S F s v1 v2 v3 l l2 l3 := by
  have := same_any v v1 l l W hv h.o1.row (by omega) (by omega)
  simp only [decide_true] at this
  exact this.mono fun _ _ ⟨h1, h2⟩ => ⟨h1, h.fresh (But.of_below h2 [])⟩
end

/-! ### A look -/
theorem looked_any {s : Ss} {work away : List Int} {ended : Nat} {a1 a2 a3 : Option Addr} {c1 c2 c3 : Nat} (w : World) (h : Inv s work away ended) (hr : RowA w a1 s.l) :
    Calls Try.prog 27 #[.int .i64 s.first, .int .u8 s.what, .slice a1 s.l.length c1, .slice a2 work.length c2, .slice a3 away.length c3] w fun e w' => e = .returned (.bool true) ∧ w' = w := by
  have hb := h.busy
  have hl := h.live
  cases hs : s.l with
  | cons x t =>
    have hne : s.l ≠ [] := by rw [hs]; simp
    rw [Ss.what_task hne, show s.first = x by rw [Ss.first, hs]; rfl, List.length_cons]
    obtain ⟨b, off, rfl, hc⟩ := hr (by rw [hs]; simp)
    have hx := hc 0 (by rw [hs]; simp)
    rw [hs] at hx
    simp only [Nat.add_zero, List.getElem?_cons_zero, Option.getD_some] at hx
    have t1 : (0 : Int) < (t.length : Int) + 1 := by omega
    have t2 : decide ((0 : Int) < (t.length : Int) + 1) = true := decide_eq_true t1
    have xx : (x == x) = true := by simp
    clear hc hr h hs hne hb hl
    go_enter Try.func27, Try.ntmps27
    go_wp2_with fail
    go_ret
    exact ⟨rfl, rfl⟩
  | nil =>
    rw [show s.first = 0 by rw [Ss.first, hs]; rfl, Ss.what, if_neg (by simp [hs])]
    rw [hs] at hl
    simp only [List.length_nil] at hl ⊢
    by_cases h1 : 0 < s.busy
    · rw [if_pos h1]
      have t1 : (0 : Int) < (work.length : Int) := by omega
      have t2 : decide ((0 : Int) < (work.length : Int)) = true := decide_eq_true t1
      clear hr h hs hb hl
      go_enter Try.func27, Try.ntmps27
      go_wp2_with fail
      go_ret
      exact ⟨rfl, rfl⟩
    · rw [if_neg h1]
      have hw : work.length = 0 := by omega
      rw [hw]
      by_cases h2 : 0 < s.live
      · rw [if_pos h2]
        have t1 : (0 : Int) < (away.length : Int) := by omega
        have t2 : decide ((0 : Int) < (away.length : Int)) = true := decide_eq_true t1
        clear hr h hs hb hl hw
        go_enter Try.func27, Try.ntmps27
        go_wp2_with fail
        go_ret
        exact ⟨rfl, rfl⟩
      · rw [if_neg h2]
        have ha : away.length = 0 := by omega
        rw [ha]
        clear hr h hs hb hl hw ha
        go_enter Try.func27, Try.ntmps27
        go_wp2_with fail
        go_ret
        exact ⟨rfl, rfl⟩
end Go.Proofs.Ytfdinodcbeipcaa
