/-
  The walk of task.Add, where there is room.
-/
import Derived.Test.YtamkmmpockmpfaaTkAddB
namespace Go.Proofs.Ytamkmmpockmpfaa
open Go.RowKit

set_option maxRecDepth 100000 in
set_option maxHeartbeats 3200000 in
theorem add_room {A : Ad} {s : Tb} (f : Fra) (w : World) (h : Tab w A s) (hok : (atF s.p f).isSome = true) (hl : s.ts.length < 32) :
    Calls Try.prog 7 #[.pointer (some ⟨A.T, 0, none⟩), fraV f] w fun e w' => e = .returned (.tuple #[.int .i64 (s.ts.length : Int), .int .i64 0]) ∧ ∃ A', Tab w' A' ⟨s.p, s.ts ++ [newTk s.p f]⟩ ∧ Turn w w' A A' := by
  have hb0 := (But.refl [] w).alloc (.cells (fraA f) 38)
  have hF0 : Blk (w.alloc (.cells (fraA f) 38)) w.heap.size 38 (fraA f) := blk_new w _ _
  obtain ⟨w0, hw0⟩ : ∃ w0, w0 = w.alloc (.cells (fraA f) 38) := ⟨_, rfl⟩
  rw [← hw0] at hb0 hF0
  have hT0 := h.fresh hb0
  have hS : ∀ W, But [] w0.drew W → W.cell? ⟨A.T, 0, none⟩ = some A.v1 ∧ W.cell? ⟨A.T, 1, none⟩ = some A.v2 ∧ W.cell? ⟨A.T, 2, none⟩ = some A.v3 ∧ W.cell? ⟨w.heap.size, 0, none⟩ = some (.int .i64 f.c) ∧ W.cell? ⟨w.heap.size, 1, none⟩ = some (.int .i64 f.p) ∧ W.cell? ⟨w.heap.size, 2, none⟩ = some (.int .i64 f.r0) ∧ W.cell? ⟨w.heap.size, 3, none⟩ = some (.int .i64 f.r1) ∧ W.cell? ⟨w.heap.size, 4, none⟩ = some (.int .i64 f.r2) ∧ W.cell? ⟨w.heap.size, 5, none⟩ = some (.int .i64 f.r3) ∧ W.cell? ⟨w.heap.size, 6, none⟩ = some (.int .i64 f.r4) ∧ W.cell? ⟨w.heap.size, 7, none⟩ = some (.int .i64 f.r5) ∧ W.cell? ⟨w.heap.size, 8, none⟩ = some (.int .i64 f.r6) ∧ W.cell? ⟨w.heap.size, 9, none⟩ = some (.int .i64 f.r7) := fun W hb => by
    have h1 := (hT0.drew.fresh hb).blk
    obtain ⟨g0, g1, g2, g3, g4, g5, g6, g7, g8, g9⟩ := fra_cells ((hb.block w.heap.size hF0.lt (by simp)).trans hF0)
    exact ⟨h1.cell rfl, h1.cell rfl, h1.cell rfl, g0, g1, g2, g3, g4, g5, g6, g7, g8, g9⟩
  have hck : ∀ W, But [] w0.drew W → Calls Try.prog 17 #[.agg #[A.v1, A.v2, A.v3], fraV f] W fun e w' => e = .returned (.int .i64 (okE true)) ∧ But [] w0.drew w' := fun W hb => (fcheck_any W (hT0.drew.fresh hb).prg hT0.small f).mono (fun e w' hp => by
    rw [hok] at hp
    exact ⟨hp.1, hb.next (But.of_below hp.2 [])⟩)
  simp only [okE, if_true] at hck
  have hd0 : But [] w0.drew w0.drew := But.refl _ _
  have HW := Lib.hid hw0
  have HF := Lib.hid hF0
  have HT := Lib.hid hT0
  have HB := Lib.hid hb0
  have HOK := Lib.hid hok
  clear hF0 hT0 hb0 hok hw0 h
  go_enter Try.func7, Try.ntmps7
  go_wp2_with fail
  rw [← HW.out]
  go_region_held3 (fun w' => w'.cell? ⟨A.T, 0, none⟩ = some A.v1 ∧ w'.cell? ⟨A.T, 1, none⟩ = some A.v2 ∧ w'.cell? ⟨A.T, 2, none⟩ = some A.v3 ∧ w'.cell? ⟨w.heap.size, 0, none⟩ = some (.int .i64 f.c) ∧ w'.cell? ⟨w.heap.size, 1, none⟩ = some (.int .i64 f.p) ∧ w'.cell? ⟨w.heap.size, 2, none⟩ = some (.int .i64 f.r0) ∧ w'.cell? ⟨w.heap.size, 3, none⟩ = some (.int .i64 f.r1) ∧ w'.cell? ⟨w.heap.size, 4, none⟩ = some (.int .i64 f.r2) ∧ w'.cell? ⟨w.heap.size, 5, none⟩ = some (.int .i64 f.r3) ∧ w'.cell? ⟨w.heap.size, 6, none⟩ = some (.int .i64 f.r4) ∧ w'.cell? ⟨w.heap.size, 7, none⟩ = some (.int .i64 f.r5) ∧ w'.cell? ⟨w.heap.size, 8, none⟩ = some (.int .i64 f.r6) ∧ w'.cell? ⟨w.heap.size, 9, none⟩ = some (.int .i64 f.r7))
    ((refine hS _ ?_; with_reducible first | exact hd0 | exact hb2))
    ((first | (go_at_call 17; with_reducible refine (hck _ hd0).mono ?_; rintro e w2 ⟨rfl, hb2⟩)))
  have h2 := HT.out.drew.fresh hb2
  have hfr : Blk w2 w.heap.size 38 (fraA f) := (hb2.block w.heap.size HF.out.lt (by simp)).trans HF.out
  have hb02 : But [] w w2 := HB.out.drew.next hb2
  obtain ⟨ra, rc, hR⟩ := owns_slice h2.row
  have c3 : w2.cell? ⟨A.T, 3, none⟩ = some (.slice ra s.ts.length rc) := by rw [← hR]; exact h2.blk.cell rfl
  have c0 : w2.cell? ⟨A.T, 0, none⟩ = some A.v1 := h2.blk.cell rfl
  have c1 : w2.cell? ⟨A.T, 1, none⟩ = some A.v2 := h2.blk.cell rfl
  have c2 : w2.cell? ⟨A.T, 2, none⟩ = some A.v3 := h2.blk.cell rfl
  obtain ⟨g0, g1, g2, g3, g4, g5, g6, g7, g8, g9⟩ := fra_cells hfr
  have hord := orders_any w2.drew h2.drew.prg h2.may
  have hn1 : ¬ (s.ts.length : Int) = 32 := by omega
  have hn2 : ((s.ts.length : Int) == 32) = false := by rw [beq_eq_false_iff_ne]; exact hn1
  have hw1 : IntKind.i64.wrap ((s.ts.length : Int) + 1 - 1) = (s.ts.length : Int) := by rw [IntKind.wrap_i64]; omega
  have hw2 : IntKind.i64.wrap (s.ts.length : Int) = (s.ts.length : Int) := by rw [IntKind.wrap_i64]; omega
  have hT3 : ∀ W, But [] w2.drew W → W.cell? ⟨A.T, 3, none⟩ = some (.slice ra s.ts.length rc) ∧ W.cell? ⟨A.T, 0, none⟩ = some A.v1 ∧ W.ownsRow 0 61 1 (.slice ra s.ts.length rc) s.ts.length (A.ks.map ptrT) ∧ Blk W w.heap.size 38 (fraA f) := fun W hb => ⟨hb.cell c3 (by simp), hb.cell c0 (by simp), by rw [← hR]; exact (h2.drew.fresh hb).row, (hb.block _ hfr.lt (by simp)).trans hfr⟩
  have H2 := Lib.hid h2
  have HR := Lib.hid hR
  clear hS hck hd0 h2 hR hfr
  go_wp2_with fail
  go_region_law (first
    | (go_simp
       go_at_call 18
       refine hord.mono ?_
       rintro e w3 ⟨M, rfl, ⟨O, hO⟩, hb3⟩
       obtain ⟨k3, k0, krow, kfr⟩ := hT3 _ hb3
       have ka : ∀ o, (w3.alloc o).cell? ⟨A.T, 3, none⟩ = some (.slice ra s.ts.length rc) := fun o => ((But.refl [] w3).alloc o).cell k3 (by simp)
       have kb : ∀ o o', ((w3.alloc o).alloc o').cell? ⟨A.T, 3, none⟩ = some (.slice ra s.ts.length rc) := fun o o' => (((But.refl [] w3).alloc o).alloc o').cell k3 (by simp)
       have hb3 := ((But.refl [] w2).drew).next hb3
       obtain ⟨q0, q1, q2, q3, q4, q5, q6, q7, q8, q9⟩ := fra_cells kfr)
    | (refine step_app_tk (.tmp 28) (.tmp 38) rfl rfl rfl ((krow.alloc _).alloc _) rfl (cell_two w3 _ _ _) (by omega) ?_
       intro v5 w5 hown hg hat
       obtain ⟨gR, capR, rfl⟩ := ownsRow_succ hown
       have hx := add_blk H2.out hb3 (by rw [HR.out]; exact hg)
       have x3 := hx.cell (k := 3) rfl
       have f3 := hx.frozen 3))
  all_goals
    obtain ⟨A', hA', hU⟩ := add_end H2.out hl hO hb3 hown (by rw [HR.out]; exact hg) (by rw [HR.out]; exact hat)
    have hU' := (Turn.refl hb02).trans hU
    have HA := Lib.hid hA'
    have HU := Lib.hid hU'
    clear hA' hU hU' hO hb3 hown hg hat ka kb k3 k0 krow kfr q0 q1 q2 q3 q4 q5 q6 q7 q8 q9 hx hT3 hord c0 c1 c2 c3 g0 g1 g2 g3 g4 g5 g6 g7 g8 g9
    go_wp2_with fail
    go_ret2
    exact ⟨rfl, A', HA.out, HU.out⟩
end Go.Proofs.Ytamkmmpockmpfaa
