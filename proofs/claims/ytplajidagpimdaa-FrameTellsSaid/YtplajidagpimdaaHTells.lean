/-
  The walk of the law FrameTells.
-/
import Derived.Test.YtplajidagpimdaaHTellsA
import Derived.Test.YtplajidagpimdaaHTellsB
namespace Go.Proofs.Ytplajidagpimdaa
open Go.RowKit

attribute [local go_sem] eqRegs


set_option maxRecDepth 100000 in
set_option maxHeartbeats 6400000 in
theorem ftells2 {lo hi : Nat} {v1 v2 v3 : Value} {p : Prg} (f : Fra) (most c : Int) (r1 : 5000 < most) (r2 : most ≤ 65536) (w : World) (h : PrgAt lo hi w v1 v2 v3 p) :
    Calls Try.prog 3 #[.agg #[v1, v2, v3], fraV f, .int .i64 most, .int .i64 c] w fun e w' => e = .returned (.bool true) ∧ Below w.heap.size w w' := by
  obtain ⟨wf, hwf⟩ : ∃ wf, wf = (w.alloc (.cells #[v1, v2, v3] 26)).alloc (.cells (fraA f) 29) := ⟨_, rfl⟩
  have hB0 : Below w.heap.size w wf := by rw [hwf]; exact below2 w _ _
  have hP : Blk wf w.heap.size 26 #[v1, v2, v3] := by rw [hwf]; exact (blk_new w _ _).alloc _
  have hF : FrAt wf (w.heap.size + 1) f := by rw [hwf]; exact blk_at (by simp)
  have hlp : Calls Try.prog 7 #[.agg #[v1, v2, v3]] wf (LongPost wf p) := long_any wf (h.later hB0)
  have hfin : ∀ W, Below w.heap.size w W → Calls Try.prog 9 #[] W fun e w' => e = .returned (.bool true) ∧ Below w.heap.size w w' := fun W hW => (alive_any W).mono fun e w' ⟨e1, e2⟩ => ⟨e1, below_next hW e2 (Nat.le_refl _)⟩
  have p0 := hP.cell (k := 0) (v := v1) rfl
  have p1 := hP.cell (k := 1) (v := v2) rfl
  have p2 := hP.cell (k := 2) (v := v3) rfl
  rw [hwf] at p0 p1 p2
  go_enter Try.func3, Try.ntmps3
  go_wp2_with fail
  rw [← hwf]
  clear hwf p0 p1 p2
  refine hlp.mono ?_
  rintro e w1 ⟨b1, rfl, hT1, hb1⟩
  have hB1 := below_next hB0 hb1 (Nat.le_refl _)
  have hP1 := hP.later hb1 hP.lt
  have hF1 := hF.later hb1 hF.lt
  clear hlp hb1 hP hB0 hF
  cases b1 with
  | true =>
    go_wp2_with (go_at_call 9; refine (hfin _ hB1).mono ?_; rintro e w2 ⟨rfl, hb⟩)
    go_ret
    exact ⟨rfl, hb⟩
  | false =>
    have tame := hT1 rfl
    clear hT1
    have r1d : decide (5000 < most) = true := by simpa using r1
    have r2d : decide (most ≤ 65536) = true := by simpa using r2
    go_wp2_with (go_at_call 9; refine (hfin _ hB1).mono ?_; rintro e w2 ⟨rfl, hb⟩)
    go_ret
    exact ⟨rfl, hb⟩
theorem ftells_any {lo hi : Nat} {v1 v2 v3 : Value} {p : Prg} (f : Fra) (most c : Int) (w : World) (h : PrgAt lo hi w v1 v2 v3 p) :
    Calls Try.prog 3 #[.agg #[v1, v2, v3], fraV f, .int .i64 most, .int .i64 c] w fun e w' => e = .returned (.bool true) ∧ Below w.heap.size w w' := by
  by_cases h1 : 5000 < most
  · by_cases h2 : most ≤ 65536
    · exact ftells2 f most c h1 h2 w h
    · exact ftells1 f most c (decide_eq_true h1) (decide_eq_false h2) w h
  · exact ftells0 f most c (decide_eq_false h1) w h
end Go.Proofs.Ytplajidagpimdaa
