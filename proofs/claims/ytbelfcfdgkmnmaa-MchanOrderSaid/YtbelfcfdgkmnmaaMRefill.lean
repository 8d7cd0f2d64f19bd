/-
  The walk of refill.
-/
import Derived.Test.YtbelfcfdgkmnmaaMDeeds
namespace Go.Proofs.Ytbelfcfdgkmnmaa
open Go.RowKit

set_option maxRecDepth 100000 in
set_option maxHeartbeats 1000000 in
theorem refill_deed {F : Nat → Prop} {C m : Nat} {cl : Bool} {buf : List Int} {t R : List Wt} {x : Wt} (w : World) (h : Chn w F C m cl buf (x :: t) R) (hl : (x :: t).length ≤ 1000) :
    Calls Try.prog 26 #[.pointer (some ⟨C, 0, none⟩)] w fun e w' => e = .returned (Gt.val ⟨0, x, buf.head?.getD 0, true, x.v⟩) ∧ Chn w' (Fw F w) C m cl (putL m buf.tail x.v) t R ∧ Frm F w w' := by
  obtain ⟨wa, hwa⟩ : ∃ wa, wa = w.alloc (.cells #[.int .u8 0, .int .i64 0, .int .i64 0, .int .i64 0, .int .i64 0, .bool false, .int .i64 0] 33) := ⟨_, rfl⟩
  have hba : Below w.heap.size w wa := by rw [hwa]; exact below1 w _
  have hg : GtAt wa w.heap.size .zero := by rw [hwa]; exact gtAt_new w .zero
  have hs := hg.lt
  have ha := h.fl.below hba
  go_enter Try.func26, Try.ntmps26
  obtain ⟨B, hb, htk, -⟩ := ha.ring
  obtain ⟨y, hy⟩ : ∃ y, y = buf.head?.getD 0 := ⟨_, rfl⟩
  obtain ⟨te, hte⟩ : ∃ te, te = takeE buf := ⟨_, rfl⟩
  rw [← hy, ← hte] at htk
  have HY := Lib.hid hy
  rw [hwa] at hb
  clear hy hte
  go_wp2_with fail
  rw [← hwa]
  clear hwa
  refine htk.mono ?_
  rintro e w1 ⟨rfl, hc1, hF1⟩
  have htk2 := take_any (t := t) (x := x) true w1 hc1 rfl hl
  clear htk hb
  go_wp2_with fail
  refine htk2.mono ?_
  rintro e w2 ⟨rfl, hc2, hF2⟩
  unfold Wt.val
  obtain ⟨w3, hw3⟩ : ∃ w3, w3 = w2.alloc (.cells #[.int .i64 x.t, .int .i64 x.c, .int .i64 x.v] 31) := ⟨_, rfl⟩
  have hb3 : Below w2.heap.size w2 w3 := by rw [hw3]; exact below1 w2 _
  have hx3 : WtAt w3 w2.heap.size x := by rw [hw3]; exact wtAt_new w2 x
  have hc3 : Chn w3.drew (Fl (Fw (Fl F w) w1) w2) C m cl buf.tail t R := hc2.fl.below hb3.drew
  obtain ⟨B2, hbb, -, hput⟩ := hc3.ring
  have hp := hput x.v
  obtain ⟨pe, hpe⟩ : ∃ pe, pe = putE m buf.tail := ⟨_, rfl⟩
  rw [← hpe] at hp
  have hbb3 : w3.cell? ⟨C, 0, none⟩ = some (.pointer (some ⟨B2, 0, none⟩)) := hbb
  have x0 := hx3.c0
  have x1 := hx3.c1
  have x2 := hx3.c2
  have hx3d : WtAt w3.drew w2.heap.size x := hx3
  have x2d := hx3d.c2
  rw [hw3] at hbb3
  clear hpe htk2 hput
  go_wp2_with fail
  rw [← hw3] at hbb3 ⊢
  clear hw3
  go_region_with (go_at_call 31; with_reducible refine hp.mono ?_; rintro e w4 ⟨rfl, hc4, hF4⟩)
  all_goals have hi : ∀ k, Fl (Fw (Fl F w) w1) w2 k → Fw (Fl F w) wa k := fun k e => e.1.elim .inl (fun e => .inr (Nat.le_trans hF1.size e))
  all_goals have h14 : Frm (Fl F w) wa w4 := ((hF1.next (hF2.mono (fun k e => .inl e))).next (Frm.of_below hb3.drew _)).next (hF4.mono hi)
  all_goals have k2 := res_kept hg h14 (Below.refl _ _)
  all_goals have hx4 : WtAt w4 w2.heap.size x := hx3d.of_block (hF4.block _ hx3d.lt (fun e => by have := e.2; omega))
  all_goals have HE := Lib.hid (deed_end hba hs (hc4.mono hi) h14 (Below.refl _ _) ⟨0, x, y, true, x.v⟩)
  all_goals have z0 := k2.frozen 0
  all_goals have z1 := k2.frozen 1
  all_goals have z2 := k2.frozen 2
  all_goals have z3 := k2.frozen 3
  all_goals have z4 := k2.frozen 4
  all_goals have z5 := k2.frozen 5
  all_goals have z6 := k2.frozen 6
  all_goals have y0 := k2.c0
  all_goals have y1 := k2.c1
  all_goals have y2 := k2.c2
  all_goals have y3 := k2.c3
  all_goals have y4 := k2.c4
  all_goals have y5 := k2.c5
  all_goals have y6 := k2.c6
  all_goals have X0 := hx4.c0
  all_goals have X1 := hx4.c1
  all_goals have X2 := hx4.c2
  all_goals clear x0 x1 x2 x2d hx3 hx3d hx4 hbb hbb3 hp hc3 hc4 hF4 hF1 hF2 hc1 hc2 h ha hg hi h14 hb3
  all_goals have k5 := k2.put7 ⟨0, x, y, true, x.v⟩
  all_goals clear k2
  all_goals go_wp2_with fail
  all_goals change bodyPost _ _ _ _ _ (put7 w4 w.heap.size ⟨0, x, y, true, x.v⟩)
  all_goals generalize put7 w4 w.heap.size ⟨0, x, y, true, x.v⟩ = W5 at k5 HE ⊢
  all_goals refine bodyPost_ret (v := Gt.val ⟨0, x, y, true, x.v⟩) (results_cell_row rfl _ _ w.heap.size 33 _ (0, 0) _ rfl k5 Try.underlying33 rfl (by kernel_rfl)) rfl ?_
  all_goals rw [← HY.out]
  all_goals exact ⟨rfl, HE.out.1, HE.out.2⟩
end Go.Proofs.Ytbelfcfdgkmnmaa
