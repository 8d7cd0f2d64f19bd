/-
  A scheduler of the call's own; the walks of tollbarlaw23's alive and nothing.
-/
import Derived.Test.YtfdinodcbeipcaaZAsk
namespace Go.Proofs.Ytfdinodcbeipcaa
open Go.RowKit

/-- A scheduler that was made since w0, where nothing older was turned. -/
structure Mys (w0 W : World) (S F : Nat) (s : Ss) : Prop where
  scd : Scd W S F s
  but : But [] w0 W
  ownS : w0.heap.size ≤ S
  ownF : w0.heap.size ≤ F

section
variable {w0 W W' : World} {S F : Nat} {s t : Ss}
theorem Mys.fresh (h : Mys w0 W S F s) (hb : But [] W W') : Mys w0 W' S F s := ⟨h.scd.fresh hb, h.but.next hb, h.ownS, h.ownF⟩
theorem Mys.drew (h : Mys w0 W S F s) : Mys w0 W.drew S F s := h.fresh (But.refl [] W).drew
theorem Mys.drewN (h : Mys w0 W S F s) (n : Nat) : Mys w0 (W.drewN n) S F s := h.fresh ((But.refl [] W).drewN n)
theorem Mys.below (h : Mys w0 W S F s) : Below w0.heap.size w0 W := h.but.below (Nat.le_refl _) (by simp)
theorem Mys.later (h : Mys w0 W S F s) (hb : Below W.heap.size W W') : Mys w0 W' S F s := h.fresh (But.of_below hb [])
theorem Mys.in (h : Mys w0 W S F s) : ∀ x ∈ [S, F], w0.heap.size ≤ x := by
  intro x hx
  simp only [List.mem_cons, List.not_mem_nil, or_false] at hx
  rcases hx with rfl | rfl
  · exact h.ownS
  · exact h.ownF
theorem Mys.turn (h : Mys w0 W S F s) (hq : Scd W' S F t) (hb : But [S, F] W W') : Mys w0 W' S F t := ⟨hq, h.but.own hb h.in, h.ownS, h.ownF⟩
/-- What turns blocks of the call's own that are not its. -/
theorem Mys.beside (h : Mys w0 W S F s) {T : List Nat} (hb : But T W W') (hS : S ∉ T) (hF : F ∉ T) (hT : ∀ x ∈ T, w0.heap.size ≤ x) : Mys w0 W' S F s := ⟨h.scd.but hb hS hF, h.but.own hb hT, h.ownS, h.ownF⟩

theorem w_new (m : Nat) (w : World) (h1 : 1 ≤ m) (h2 : m ≤ 32) (hz : But [] w0 w) :
    Calls Try.prog 8 #[.int .i64 (m : Int)] w fun e w' => ∃ S F, e = .returned (.tuple #[ptrO S, .int .i64 0]) ∧ Mys w0 w' S F (Ss.new m) := by
  refine (znew_ok m w h1 h2).mono ?_
  rintro e w' ⟨S, F, rfl, hq, hb, h3, h4⟩
  exact ⟨S, F, rfl, hq, hz.next hb, Nat.le_trans hz.size h3, Nat.le_trans hz.size h4⟩
theorem w_make {v e : Int} (w : World) (h : Mys w0 w S F s) (hv : v = s.makeV) (he : e = s.makeE) (ht : t = s.make) :
    Calls Try.prog 9 #[ptrO S] w fun e' w' => e' = .returned (.tuple #[.int .i64 v, .int .i64 e]) ∧ Mys w0 w' S F t := by
  subst hv he ht
  refine (zmake_any w h.scd).mono ?_
  rintro e w' ⟨h1, h2, h3⟩
  exact ⟨h1, h.turn h2 h3⟩
theorem w_next {v e : Int} (w : World) (h : Mys w0 w S F s) (hb : s.busy < 1000000000) (hv : v = s.first) (he : e = s.what) (ht : t = s.next) :
    Calls Try.prog 11 #[ptrO S] w fun e' w' => e' = .returned (.tuple #[.int .i64 v, .int .u8 e]) ∧ Mys w0 w' S F t := by
  subst hv he ht
  refine (znext_any w h.scd hb).mono ?_
  rintro e w' ⟨h1, h2, h3⟩
  exact ⟨h1, h.turn h2 h3⟩
theorem w_push {e : Int} (k : Int) (w : World) (h : Mys w0 w S F s) (he : e = s.pushE k) (ht : t = s.push k) :
    Calls Try.prog 13 #[ptrO S, .int .i64 k] w fun e' w' => e' = .returned (.int .i64 e) ∧ Mys w0 w' S F t := by
  subst he ht
  refine (zpush_any k w h.scd).mono ?_
  rintro e w' ⟨h1, h2, h3⟩
  exact ⟨h1, h.turn h2 h3⟩
theorem w_back {e : Int} (k : Int) (w : World) (h : Mys w0 w S F s) (he : e = s.backE k) (ht : t = s.back k) :
    Calls Try.prog 15 #[ptrO S, .int .i64 k] w fun e' w' => e' = .returned (.int .i64 e) ∧ Mys w0 w' S F t := by
  subst he ht
  refine (zback_any k w h.scd).mono ?_
  rintro e w' ⟨h1, h2, h3⟩
  exact ⟨h1, h.turn h2 h3⟩
theorem w_leave {e : Int} (w : World) (h : Mys w0 w S F s) (he : e = s.fewE false) (ht : t = s.leave) :
    Calls Try.prog 17 #[ptrO S] w fun e' w' => e' = .returned (.int .i64 e) ∧ Mys w0 w' S F t := by
  subst he ht
  refine (zleave_any w h.scd).mono ?_
  rintro e w' ⟨h1, h2, h3⟩
  exact ⟨h1, h.turn h2 h3⟩
theorem w_end {e : Int} (w : World) (h : Mys w0 w S F s) (he : e = s.fewE true) (ht : t = s.fin) :
    Calls Try.prog 19 #[ptrO S] w fun e' w' => e' = .returned (.int .i64 e) ∧ Mys w0 w' S F t := by
  subst he ht
  refine (zend_any w h.scd).mono ?_
  rintro e w' ⟨h1, h2, h3⟩
  exact ⟨h1, h.turn h2 h3⟩
theorem w_made {n : Nat} (w : World) (h : Mys w0 w S F s) (hn : s.made = n) :
    Calls Try.prog 22 #[ptrO S] w fun e' w' => e' = .returned (.int .i64 (n : Int)) ∧ Mys w0 w' S F s ∧ But [] w w' := by
  subst hn
  exact (zmade_any w h.scd).mono fun e w' ⟨h1, h2⟩ => ⟨h1, h.fresh h2, h2⟩
theorem w_live {n : Nat} (w : World) (h : Mys w0 w S F s) (hn : s.live = n) :
    Calls Try.prog 23 #[ptrO S] w fun e' w' => e' = .returned (.int .i64 (n : Int)) ∧ Mys w0 w' S F s ∧ But [] w w' := by
  subst hn
  exact (zlive_any w h.scd).mono fun e w' ⟨h1, h2⟩ => ⟨h1, h.fresh h2, h2⟩
theorem w_busy {n : Nat} (w : World) (h : Mys w0 w S F s) (hn : s.busy = n) :
    Calls Try.prog 24 #[ptrO S] w fun e' w' => e' = .returned (.int .i64 (n : Int)) ∧ Mys w0 w' S F s ∧ But [] w w' := by
  subst hn
  exact (zbusy_any w h.scd).mono fun e w' ⟨h1, h2⟩ => ⟨h1, h.fresh h2, h2⟩
end

set_option maxRecDepth 100000 in
set_option maxHeartbeats 3200000 in
theorem alive_any (w : World) :
    Calls Try.prog 6 #[] w fun e w' => e = .returned (.bool true) ∧ Below w.heap.size w w' := by
  have hnew := w_new (w0 := w) 2 w (by omega) (by omega) (But.refl [] w)
  have hbad := fun w => znew_bad 0 w (by omega)
  go_enter Try.func6, Try.ntmps6
  go_wp2_with fail
  refine hnew.mono ?_
  rintro e w1 ⟨S, F, rfl, H⟩
  clear hnew
  go_wp2_with fail
  refine (hbad _).mono ?_
  rintro e w1 ⟨rfl, rfl⟩
  clear hbad
  go_wp2_with fail
  refine (w_make (v := 0) (e := 0) (t := ⟨[0], 2, 1, 1, 0⟩) _ H rfl rfl rfl).mono ?_
  rintro e w2 ⟨rfl, H⟩
  go_wp2_with fail
  refine (w_make (v := 1) (e := 0) (t := ⟨[0, 1], 2, 2, 2, 0⟩) _ H rfl rfl rfl).mono ?_
  rintro e w3 ⟨rfl, H⟩
  go_wp2_with fail
  refine (w_make (v := 0) (e := 4) (t := ⟨[0, 1], 2, 2, 2, 0⟩) _ H rfl rfl rfl).mono ?_
  rintro e w4 ⟨rfl, H⟩
  go_wp2_with fail
  refine (w_next (v := 0) (e := 1) (t := ⟨[1], 2, 2, 2, 1⟩) _ H (by decide) rfl rfl rfl).mono ?_
  rintro e w5 ⟨rfl, H⟩
  go_wp2_with fail
  refine (w_next (v := 1) (e := 1) (t := ⟨[], 2, 2, 2, 2⟩) _ H (by decide) rfl rfl rfl).mono ?_
  rintro e w6 ⟨rfl, H⟩
  go_wp2_with fail
  refine (w_next (v := 0) (e := 2) (t := ⟨[], 2, 2, 2, 2⟩) _ H (by decide) rfl rfl rfl).mono ?_
  rintro e w7 ⟨rfl, H⟩
  go_wp2_with fail
  refine (w_back (e := 0) (t := ⟨[1], 2, 2, 2, 1⟩) 1 _ H rfl rfl).mono ?_
  rintro e w8 ⟨rfl, H⟩
  go_wp2_with fail
  refine (w_next (v := 1) (e := 1) (t := ⟨[], 2, 2, 2, 2⟩) _ H (by decide) rfl rfl rfl).mono ?_
  rintro e w9 ⟨rfl, H⟩
  go_wp2_with fail
  refine (w_leave (e := 0) (t := ⟨[], 2, 2, 2, 1⟩) _ H rfl rfl).mono ?_
  rintro e wa ⟨rfl, H⟩
  go_wp2_with fail
  refine (w_leave (e := 0) (t := ⟨[], 2, 2, 2, 0⟩) _ H rfl rfl).mono ?_
  rintro e wb ⟨rfl, H⟩
  go_wp2_with fail
  refine (w_next (v := 0) (e := 4) (t := ⟨[], 2, 2, 2, 0⟩) _ H (by decide) rfl rfl rfl).mono ?_
  rintro e wc ⟨rfl, H⟩
  go_wp2_with fail
  refine (w_push (e := 0) (t := ⟨[0], 2, 2, 2, 0⟩) 0 _ H rfl rfl).mono ?_
  rintro e wd ⟨rfl, H⟩
  go_wp2_with fail
  refine (w_next (v := 0) (e := 1) (t := ⟨[], 2, 2, 2, 1⟩) _ H (by decide) rfl rfl rfl).mono ?_
  rintro e we ⟨rfl, H⟩
  go_wp2_with fail
  refine (w_end (e := 0) (t := ⟨[], 2, 2, 1, 0⟩) _ H rfl rfl).mono ?_
  rintro e wf ⟨rfl, H⟩
  go_wp2_with fail
  refine (w_live (n := 1) _ H rfl).mono ?_
  rintro e wg ⟨rfl, H, -⟩
  go_wp2_with fail
  refine (w_busy (n := 0) _ H rfl).mono ?_
  rintro e wh ⟨rfl, H, -⟩
  go_wp2_with fail
  refine (w_made (n := 2) _ H rfl).mono ?_
  rintro e wi ⟨rfl, H, -⟩
  have hbe := H.below
  clear H
  go_wp2_with fail
  go_ret
  exact ⟨rfl, hbe⟩

set_option maxRecDepth 100000 in
set_option maxHeartbeats 1600000 in
theorem nothing_any (w : World) :
    Calls Try.prog 7 #[] w fun e w' => e = .returned (.bool true) ∧ Below w.heap.size w w' := by
  have hb0 := But.refl [] w
  go_enter Try.func7, Try.ntmps7
  go_wp2_with fail
  refine (zmake_nil _).mono ?_
  rintro e w1 ⟨rfl, rfl⟩
  go_wp2_with fail
  refine (znext_nil _).mono ?_
  rintro e w2 ⟨rfl, hb⟩
  have hb0 := hb0.next hb
  clear hb
  go_wp2_with fail
  refine (zpush_nil 0 _).mono ?_
  rintro e w2 ⟨rfl, rfl⟩
  go_wp2_with fail
  refine (zback_nil 0 _).mono ?_
  rintro e w2 ⟨rfl, rfl⟩
  go_wp2_with fail
  refine (zleave_nil _).mono ?_
  rintro e w2 ⟨rfl, rfl⟩
  go_wp2_with fail
  refine (zend_nil _).mono ?_
  rintro e w2 ⟨rfl, rfl⟩
  go_wp2_with fail
  refine (zmade_nil _).mono ?_
  rintro e w3 ⟨rfl, hb⟩
  have hb0 := hb0.next hb
  clear hb
  go_wp2_with fail
  refine (zlive_nil _).mono ?_
  rintro e w4 ⟨rfl, hb⟩
  have hb0 := hb0.next hb
  clear hb
  go_wp2_with fail
  refine (zbusy_nil _).mono ?_
  rintro e w5 ⟨rfl, hb⟩
  have hb0 := hb0.next hb
  clear hb
  go_wp2_with fail
  refine (zlist_nil _).mono ?_
  rintro e w6 ⟨a, c, rfl, hb⟩
  have hb0 := hb0.next hb
  clear hb
  go_wp2_with fail
  refine (zcopy_nil _).mono ?_
  rintro e w7 ⟨rfl, rfl⟩
  have hB := hb0.below (Nat.le_refl _) (by simp)
  clear hb0
  go_wp2_with fail
  go_ret
  exact ⟨rfl, hB⟩
end Go.Proofs.Ytfdinodcbeipcaa
