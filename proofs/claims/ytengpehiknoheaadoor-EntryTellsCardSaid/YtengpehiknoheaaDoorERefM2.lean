/-
  The walk of the document's May, kind by kind.
-/
import Derived.Deep.Cut
import Derived.Deep.CutRange
import Derived.Test.YtengpehiknoheaaDoorERefA
import Derived.Test.YtengpehiknoheaaDoorERefN
namespace Go.Proofs.YtengpehiknoheaaDoor
open Go.RowKit Go.Shelf

attribute [local go_sem] Oper.semAt_some
theorem may_eq_9 (a w t p c b q v u : Int) (o : Bool) (e : Int) (s : Nat) : okB (⟨a, 9, w, t, p, c, b, q, v, u, o, e, s⟩ : En) = (decide (0 ≤ a) && ((inB b 0 7 && (q == 0)) && (inB t 0 31 && (inB p 0 31 && ((w == 0) && ((c == 0) && ((v == 0) && ((u == 0) && ((!o) && ((e == 0) && (((s : Int) == 0) && true))))))))))) := by
  rw [Bool.eq_iff_iff]
  cases o <;> simp [okB, mayAll, known, namesOf, mayStep, mayN, En.get, bareOf, bareStep, En.put, En.only, En.eq, inB]
  all_goals first | done | omega | (constructor <;> (intro h; simp_all; try omega)) | skip
set_option maxRecDepth 100000 in
set_option maxHeartbeats 1600000 in
theorem rcases_9 (a w t p c b q v u : Int) (o : Bool) (e : Int) (s : Nat) (m : Bool) (HM : Hid (m = (inB b 0 7 && (q == 0)))) (w0 : World) :
    Calls Tryd.prog 35 #[.agg #[.int .i64 a, .int .u8 9, .int .i64 w, .int .i64 t, .int .i64 p, .int .i64 c, .int .i64 b, .int .i64 q, .int .i64 v, .int .i64 u, .bool o, .int .i64 e, .int .u64 (s : Int)], .agg #[.bool false, .bool true, .bool true, .bool false, .bool true, .bool false, .bool false, .bool false, .bool false, .bool false, .bool false]] w0 fun e' W' => e' = .returned (.bool m) ∧ But [] w0 W' := by
  have hb0 : But [] w0 ((w0.alloc (.cells #[.int .i64 a, .int .u8 9, .int .i64 w, .int .i64 t, .int .i64 p, .int .i64 c, .int .i64 b, .int .i64 q, .int .i64 v, .int .i64 u, .bool o, .int .i64 e, .int .u64 (s : Int)] 26)).alloc (.cells #[.bool false, .bool true, .bool true, .bool false, .bool true, .bool false, .bool false, .bool false, .bool false, .bool false, .bool false] 56)) := ((But.refl [] w0).alloc _).alloc _
  go_enter Tryd.func35, Tryd.ntmps35
  go_wp2_with fail
  refine (rin_any b 0 7 _).mono ?_
  rintro e' w' ⟨rfl, rfl⟩
  rcases (Bool.eq_false_or_eq_true (inB b 0 7)).symm with z1 | z1
  · rw [z1]
    go_wp2_with fail
    go_ret
    exact ⟨ret_v (by rw [HM.out, z1]; rfl), hb0⟩
  rw [z1]
  rcases (Bool.eq_false_or_eq_true (q == 0)).symm with z3 | z3
  all_goals
    go_wp2_with fail
    go_ret
    exact ⟨ret_v (by rw [HM.out, z1, z3]; rfl), hb0⟩
set_option maxRecDepth 100000 in
set_option maxHeartbeats 12800000 in
theorem rmay_9 (a w t p c b q v u : Int) (o : Bool) (e : Int) (s : Nat) (w0 : World) :
    Calls Tryd.prog 14 #[.agg #[.int .i64 a, .int .u8 9, .int .i64 w, .int .i64 t, .int .i64 p, .int .i64 c, .int .i64 b, .int .i64 q, .int .i64 v, .int .i64 u, .bool o, .int .i64 e, .int .u64 (s : Int)]] w0 fun e' W' => e' = .returned (.bool (okB (⟨a, 9, w, t, p, c, b, q, v, u, o, e, s⟩ : En))) ∧ But [] w0 W' := by
  obtain ⟨m, hm⟩ : ∃ m, m = okB (⟨a, 9, w, t, p, c, b, q, v, u, o, e, s⟩ : En) := ⟨_, rfl⟩
  have HM : Hid (m = (decide (0 ≤ a) && ((inB b 0 7 && (q == 0)) && (inB t 0 31 && (inB p 0 31 && ((w == 0) && ((c == 0) && ((v == 0) && ((u == 0) && ((!o) && ((e == 0) && (((s : Int) == 0) && true)))))))))))) := Lib.hid (hm.trans (may_eq_9 a w t p c b q v u o e s))
  obtain ⟨mc, hmc⟩ : ∃ mc, mc = (inB b 0 7 && (q == 0)) := ⟨_, rfl⟩
  rw [← hmc] at HM
  rw [← hm]
  have hcas := rcases_9 a w t p c b q v u o e s mc (Lib.hid hmc)
  have HMC := Lib.hid hmc
  clear hm hmc
  obtain ⟨W0, hW0⟩ : ∃ W0, W0 = w0.alloc (.cells #[.int .i64 a, .int .u8 9, .int .i64 w, .int .i64 t, .int .i64 p, .int .i64 c, .int .i64 b, .int .i64 q, .int .i64 v, .int .i64 u, .bool o, .int .i64 e, .int .u64 (s : Int)] 26) := ⟨_, rfl⟩
  have hb0 : But [] w0 W0 := by rw [hW0]; exact (But.refl [] w0).alloc _
  have hbox : EnAt W0 w0.heap.size (⟨a, 9, w, t, p, c, b, q, v, u, o, e, s⟩ : En) := by rw [hW0]; exact enAt_new w0 (⟨a, 9, w, t, p, c, b, q, v, u, o, e, s⟩ : En)
  have hof : Calls Tryd.prog 25 #[.int .u8 9] W0 fun e w' => e = .returned (.agg #[.bool false, .bool true, .bool true, .bool false, .bool true, .bool false, .bool false, .bool false, .bool false, .bool false, .bool false]) ∧ But [] W0 w' := rof_any 9 W0
  have hkn : ∀ W, Calls Tryd.prog 34 #[.int .u8 9] W fun e w' => e = .returned (.bool true) ∧ w' = W := fun W => rknown_any 9 W
  rw [hW0] at hof
  go_enter Tryd.func14, Tryd.ntmps14
  go_wp2_with fail
  refine hof.mono ?_
  rw [← hW0]
  rintro e' wk ⟨rfl, hk⟩
  obtain ⟨W1, hW1⟩ : ∃ W1, W1 = wk.alloc (.cells #[.bool false, .bool true, .bool true, .bool false, .bool true, .bool false, .bool false, .bool false, .bool false, .bool false, .bool false] 56) := ⟨_, rfl⟩
  have hb1 : But [] wk W1 := by rw [hW1]; exact (But.refl [] wk).alloc _
  have hX := hbox.of_block ((hk.next hb1).block _ hbox.lt (by simp))
  have hN : NdAt W1 wk.heap.size false true true false true false false false false false false := by rw [hW1]; exact ndAt_new wk false true true false true false false false false false false
  have hB1 : But [] w0 W1 := hb0.next (hk.next hb1)
  have y0 : W1.cell? ⟨w0.heap.size, 0, none⟩ = some (.int .i64 a) := hX.c0
  have y1 : W1.cell? ⟨w0.heap.size, 1, none⟩ = some (.int .u8 9) := hX.c1
  have y2 : W1.cell? ⟨w0.heap.size, 2, none⟩ = some (.int .i64 w) := hX.c2
  have y3 : W1.cell? ⟨w0.heap.size, 3, none⟩ = some (.int .i64 t) := hX.c3
  have y4 : W1.cell? ⟨w0.heap.size, 4, none⟩ = some (.int .i64 p) := hX.c4
  have y5 : W1.cell? ⟨w0.heap.size, 5, none⟩ = some (.int .i64 c) := hX.c5
  have y6 : W1.cell? ⟨w0.heap.size, 6, none⟩ = some (.int .i64 b) := hX.c6
  have y7 : W1.cell? ⟨w0.heap.size, 7, none⟩ = some (.int .i64 q) := hX.c7
  have y8 : W1.cell? ⟨w0.heap.size, 8, none⟩ = some (.int .i64 v) := hX.c8
  have y9 : W1.cell? ⟨w0.heap.size, 9, none⟩ = some (.int .i64 u) := hX.c9
  have y10 : W1.cell? ⟨w0.heap.size, 10, none⟩ = some (.bool o) := hX.c10
  have y11 : W1.cell? ⟨w0.heap.size, 11, none⟩ = some (.int .i64 e) := hX.c11
  have y12 : W1.cell? ⟨w0.heap.size, 12, none⟩ = some (.int .u64 (s : Int)) := hX.c12
  have n0 : W1.cell? ⟨wk.heap.size, 0, none⟩ = some (.bool false) := hN.c0
  have n1 : W1.cell? ⟨wk.heap.size, 1, none⟩ = some (.bool true) := hN.c1
  have n2 : W1.cell? ⟨wk.heap.size, 2, none⟩ = some (.bool true) := hN.c2
  have n3 : W1.cell? ⟨wk.heap.size, 3, none⟩ = some (.bool false) := hN.c3
  have n4 : W1.cell? ⟨wk.heap.size, 4, none⟩ = some (.bool true) := hN.c4
  have n5 : W1.cell? ⟨wk.heap.size, 5, none⟩ = some (.bool false) := hN.c5
  have n6 : W1.cell? ⟨wk.heap.size, 6, none⟩ = some (.bool false) := hN.c6
  have n7 : W1.cell? ⟨wk.heap.size, 7, none⟩ = some (.bool false) := hN.c7
  have n8 : W1.cell? ⟨wk.heap.size, 8, none⟩ = some (.bool false) := hN.c8
  have n9 : W1.cell? ⟨wk.heap.size, 9, none⟩ = some (.bool false) := hN.c9
  have n10 : W1.cell? ⟨wk.heap.size, 10, none⟩ = some (.bool false) := hN.c10
  have hcs := hcas W1
  rw [hW1] at hcs y0 y1 y2 y3 y4 y5 y6 y7 y8 y9 y10 y11 y12 n0 n1 n2 n3 n4 n5 n6 n7 n8 n9 n10
  clear hcas hof hk hb0 hb1 hbox hW0
  go_wp2_with fail
  refine (hkn _).mono ?_
  rintro e' w' ⟨rfl, rfl⟩
  by_cases ha : a < 0
  · have ha2 : decide (0 ≤ a) = false := by simp; omega
    go_wp2_with fail
    go_ret
    exact ⟨ret_v (by rw [HM.out, ha2]; rfl), by rw [← hW1]; exact hB1⟩
  have ha2 : decide (0 ≤ a) = true := by simp; omega
  have ha3 : decide (a < 0) = false := by simp; omega
  have ha4 : 0 ≤ a := by omega
  clear ha
  go_wp2_with fail
  refine hcs.mono ?_
  rw [← hW1]
  rintro e' wb ⟨rfl, hkb⟩
  have hX2 := hX.of_block (hkb.block _ hX.lt (by simp))
  have hN2 := hN.of_block (hkb.block _ hN.lt (by simp))
  have hB := hB1.next hkb
  clear hcs y0 y1 y2 y3 y4 y5 y6 y7 y8 y9 y10 y11 y12 n0 n1 n2 n3 n4 n5 n6 n7 n8 n9 n10 hW1 hX hN hB1 hkb hkn
  rcases (Bool.eq_false_or_eq_true mc).symm with hc | hc
  · rw [hc]
    go_wp2_with fail
    go_ret
    exact ⟨ret_v (by rw [HM.out, ha2, hc]; rfl), hB⟩
  rw [hc]
  have y0 : wb.cell? ⟨w0.heap.size, 0, none⟩ = some (.int .i64 a) := hX2.c0
  have y1 : wb.cell? ⟨w0.heap.size, 1, none⟩ = some (.int .u8 9) := hX2.c1
  have y2 : wb.cell? ⟨w0.heap.size, 2, none⟩ = some (.int .i64 w) := hX2.c2
  have y3 : wb.cell? ⟨w0.heap.size, 3, none⟩ = some (.int .i64 t) := hX2.c3
  have y4 : wb.cell? ⟨w0.heap.size, 4, none⟩ = some (.int .i64 p) := hX2.c4
  have y5 : wb.cell? ⟨w0.heap.size, 5, none⟩ = some (.int .i64 c) := hX2.c5
  have y6 : wb.cell? ⟨w0.heap.size, 6, none⟩ = some (.int .i64 b) := hX2.c6
  have y7 : wb.cell? ⟨w0.heap.size, 7, none⟩ = some (.int .i64 q) := hX2.c7
  have y8 : wb.cell? ⟨w0.heap.size, 8, none⟩ = some (.int .i64 v) := hX2.c8
  have y9 : wb.cell? ⟨w0.heap.size, 9, none⟩ = some (.int .i64 u) := hX2.c9
  have y10 : wb.cell? ⟨w0.heap.size, 10, none⟩ = some (.bool o) := hX2.c10
  have y11 : wb.cell? ⟨w0.heap.size, 11, none⟩ = some (.int .i64 e) := hX2.c11
  have y12 : wb.cell? ⟨w0.heap.size, 12, none⟩ = some (.int .u64 (s : Int)) := hX2.c12
  have n0 : wb.cell? ⟨wk.heap.size, 0, none⟩ = some (.bool false) := hN2.c0
  have n1 : wb.cell? ⟨wk.heap.size, 1, none⟩ = some (.bool true) := hN2.c1
  have n2 : wb.cell? ⟨wk.heap.size, 2, none⟩ = some (.bool true) := hN2.c2
  have n3 : wb.cell? ⟨wk.heap.size, 3, none⟩ = some (.bool false) := hN2.c3
  have n4 : wb.cell? ⟨wk.heap.size, 4, none⟩ = some (.bool true) := hN2.c4
  have n5 : wb.cell? ⟨wk.heap.size, 5, none⟩ = some (.bool false) := hN2.c5
  have n6 : wb.cell? ⟨wk.heap.size, 6, none⟩ = some (.bool false) := hN2.c6
  have n7 : wb.cell? ⟨wk.heap.size, 7, none⟩ = some (.bool false) := hN2.c7
  have n8 : wb.cell? ⟨wk.heap.size, 8, none⟩ = some (.bool false) := hN2.c8
  have n9 : wb.cell? ⟨wk.heap.size, 9, none⟩ = some (.bool false) := hN2.c9
  have n10 : wb.cell? ⟨wk.heap.size, 10, none⟩ = some (.bool false) := hN2.c10
  clear ha3 hX2 hN2
  go_wp2_with fail
  refine (rin_any t 0 31 _).mono ?_
  rintro e' w' ⟨rfl, rfl⟩
  rcases (Bool.eq_false_or_eq_true (inB t 0 31)).symm with i0 | i0
  · rw [i0]
    go_wp2_with fail
    go_ret
    exact ⟨ret_v (by rw [HM.out, ha2, hc, i0]; rfl), hB⟩
  rw [i0]
  go_wp2_with fail
  refine (rin_any p 0 31 _).mono ?_
  rintro e' w' ⟨rfl, rfl⟩
  rcases (Bool.eq_false_or_eq_true (inB p 0 31)).symm with i1 | i1
  · rw [i1]
    go_wp2_with fail
    go_ret
    exact ⟨ret_v (by rw [HM.out, ha2, hc, i0, i1]; rfl), hB⟩
  rw [i1]
  go_upto_region 9 with fail
  simp only [List.append_eq, List.cons_append, List.nil_append]
  rcases (Bool.eq_false_or_eq_true (w == 0)).symm with z0 | z0
  · go_wp2_with fail
    go_ret
    exact ⟨ret_v (by rw [HM.out, ha2, hc, i0, i1, z0]; rfl), hB⟩
  rcases (Bool.eq_false_or_eq_true (c == 0)).symm with z1 | z1
  · go_wp2_with fail
    go_ret
    exact ⟨ret_v (by rw [HM.out, ha2, hc, i0, i1, z0, z1]; rfl), hB⟩
  rcases (Bool.eq_false_or_eq_true (v == 0)).symm with z2 | z2
  · go_wp2_with fail
    go_ret
    exact ⟨ret_v (by rw [HM.out, ha2, hc, i0, i1, z0, z1, z2]; rfl), hB⟩
  rcases (Bool.eq_false_or_eq_true (u == 0)).symm with z3 | z3
  · go_wp2_with fail
    go_ret
    exact ⟨ret_v (by rw [HM.out, ha2, hc, i0, i1, z0, z1, z2, z3]; rfl), hB⟩
  rcases (Bool.eq_false_or_eq_true o) with rfl | rfl
  · go_wp2_with fail
    go_ret
    exact ⟨ret_v (by rw [HM.out, ha2, hc, i0, i1, z0, z1, z2, z3]; rfl), hB⟩
  rcases (Bool.eq_false_or_eq_true (e == 0)).symm with z5 | z5
  · go_wp2_with fail
    go_ret
    exact ⟨ret_v (by rw [HM.out, ha2, hc, i0, i1, z0, z1, z2, z3, z5]; rfl), hB⟩
  rcases (Bool.eq_false_or_eq_true ((s : Int) == 0)).symm with z6 | z6
  · go_wp2_with fail
    go_ret
    exact ⟨ret_v (by rw [HM.out, ha2, hc, i0, i1, z0, z1, z2, z3, z5, z6]; rfl), hB⟩
  go_wp2_with fail
  go_ret
  exact ⟨ret_v (by rw [HM.out, ha2, hc, i0, i1, z0, z1, z2, z3, z5, z6]; rfl), hB⟩
theorem may_eq_10 (a w t p c b q v u : Int) (o : Bool) (e : Int) (s : Nat) : okB (⟨a, 10, w, t, p, c, b, q, v, u, o, e, s⟩ : En) = (decide (0 ≤ a) && (((b == 0) && (q == 0)) && (inB t 0 31 && ((w == 0) && ((p == 0) && ((c == 0) && ((v == 0) && ((u == 0) && ((!o) && ((e == 0) && (((s : Int) == 0) && true))))))))))) := by
  rw [Bool.eq_iff_iff]
  cases o <;> simp [okB, mayAll, known, namesOf, mayStep, mayN, En.get, bareOf, bareStep, En.put, En.only, En.eq, inB]
  all_goals first | done | omega | (constructor <;> (intro h; simp_all; try omega)) | skip
set_option maxRecDepth 100000 in
set_option maxHeartbeats 1600000 in
theorem rcases_10 (a w t p c b q v u : Int) (o : Bool) (e : Int) (s : Nat) (m : Bool) (HM : Hid (m = ((b == 0) && (q == 0)))) (w0 : World) :
    Calls Tryd.prog 35 #[.agg #[.int .i64 a, .int .u8 10, .int .i64 w, .int .i64 t, .int .i64 p, .int .i64 c, .int .i64 b, .int .i64 q, .int .i64 v, .int .i64 u, .bool o, .int .i64 e, .int .u64 (s : Int)], .agg #[.bool false, .bool true, .bool false, .bool false, .bool false, .bool false, .bool false, .bool false, .bool false, .bool false, .bool false]] w0 fun e' W' => e' = .returned (.bool m) ∧ But [] w0 W' := by
  have hb0 : But [] w0 ((w0.alloc (.cells #[.int .i64 a, .int .u8 10, .int .i64 w, .int .i64 t, .int .i64 p, .int .i64 c, .int .i64 b, .int .i64 q, .int .i64 v, .int .i64 u, .bool o, .int .i64 e, .int .u64 (s : Int)] 26)).alloc (.cells #[.bool false, .bool true, .bool false, .bool false, .bool false, .bool false, .bool false, .bool false, .bool false, .bool false, .bool false] 56)) := ((But.refl [] w0).alloc _).alloc _
  go_enter Tryd.func35, Tryd.ntmps35
  rcases (Bool.eq_false_or_eq_true (b == 0)).symm with z1 | z1
  · have z2 : (b != 0) = true := by rw [bne, z1]; rfl
    go_wp2_with fail
    go_ret
    exact ⟨ret_v (by rw [HM.out, z1]; rfl), hb0⟩
  have z2 : (b != 0) = false := by rw [bne, z1]; rfl
  rcases (Bool.eq_false_or_eq_true (q == 0)).symm with z3 | z3
  all_goals
    go_wp2_with fail
    go_ret
    exact ⟨ret_v (by rw [HM.out, z1, z3]; rfl), hb0⟩
set_option maxRecDepth 100000 in
set_option maxHeartbeats 12800000 in
theorem rmay_10 (a w t p c b q v u : Int) (o : Bool) (e : Int) (s : Nat) (w0 : World) :
    Calls Tryd.prog 14 #[.agg #[.int .i64 a, .int .u8 10, .int .i64 w, .int .i64 t, .int .i64 p, .int .i64 c, .int .i64 b, .int .i64 q, .int .i64 v, .int .i64 u, .bool o, .int .i64 e, .int .u64 (s : Int)]] w0 fun e' W' => e' = .returned (.bool (okB (⟨a, 10, w, t, p, c, b, q, v, u, o, e, s⟩ : En))) ∧ But [] w0 W' := by
  obtain ⟨m, hm⟩ : ∃ m, m = okB (⟨a, 10, w, t, p, c, b, q, v, u, o, e, s⟩ : En) := ⟨_, rfl⟩
  have HM : Hid (m = (decide (0 ≤ a) && (((b == 0) && (q == 0)) && (inB t 0 31 && ((w == 0) && ((p == 0) && ((c == 0) && ((v == 0) && ((u == 0) && ((!o) && ((e == 0) && (((s : Int) == 0) && true)))))))))))) := Lib.hid (hm.trans (may_eq_10 a w t p c b q v u o e s))
  obtain ⟨mc, hmc⟩ : ∃ mc, mc = ((b == 0) && (q == 0)) := ⟨_, rfl⟩
  rw [← hmc] at HM
  rw [← hm]
  have hcas := rcases_10 a w t p c b q v u o e s mc (Lib.hid hmc)
  have HMC := Lib.hid hmc
  clear hm hmc
  obtain ⟨W0, hW0⟩ : ∃ W0, W0 = w0.alloc (.cells #[.int .i64 a, .int .u8 10, .int .i64 w, .int .i64 t, .int .i64 p, .int .i64 c, .int .i64 b, .int .i64 q, .int .i64 v, .int .i64 u, .bool o, .int .i64 e, .int .u64 (s : Int)] 26) := ⟨_, rfl⟩
  have hb0 : But [] w0 W0 := by rw [hW0]; exact (But.refl [] w0).alloc _
  have hbox : EnAt W0 w0.heap.size (⟨a, 10, w, t, p, c, b, q, v, u, o, e, s⟩ : En) := by rw [hW0]; exact enAt_new w0 (⟨a, 10, w, t, p, c, b, q, v, u, o, e, s⟩ : En)
  have hof : Calls Tryd.prog 25 #[.int .u8 10] W0 fun e w' => e = .returned (.agg #[.bool false, .bool true, .bool false, .bool false, .bool false, .bool false, .bool false, .bool false, .bool false, .bool false, .bool false]) ∧ But [] W0 w' := rof_any 10 W0
  have hkn : ∀ W, Calls Tryd.prog 34 #[.int .u8 10] W fun e w' => e = .returned (.bool true) ∧ w' = W := fun W => rknown_any 10 W
  rw [hW0] at hof
  go_enter Tryd.func14, Tryd.ntmps14
  go_wp2_with fail
  refine hof.mono ?_
  rw [← hW0]
  rintro e' wk ⟨rfl, hk⟩
  obtain ⟨W1, hW1⟩ : ∃ W1, W1 = wk.alloc (.cells #[.bool false, .bool true, .bool false, .bool false, .bool false, .bool false, .bool false, .bool false, .bool false, .bool false, .bool false] 56) := ⟨_, rfl⟩
  have hb1 : But [] wk W1 := by rw [hW1]; exact (But.refl [] wk).alloc _
  have hX := hbox.of_block ((hk.next hb1).block _ hbox.lt (by simp))
  have hN : NdAt W1 wk.heap.size false true false false false false false false false false false := by rw [hW1]; exact ndAt_new wk false true false false false false false false false false false
  have hB1 : But [] w0 W1 := hb0.next (hk.next hb1)
  have y0 : W1.cell? ⟨w0.heap.size, 0, none⟩ = some (.int .i64 a) := hX.c0
  have y1 : W1.cell? ⟨w0.heap.size, 1, none⟩ = some (.int .u8 10) := hX.c1
  have y2 : W1.cell? ⟨w0.heap.size, 2, none⟩ = some (.int .i64 w) := hX.c2
  have y3 : W1.cell? ⟨w0.heap.size, 3, none⟩ = some (.int .i64 t) := hX.c3
  have y4 : W1.cell? ⟨w0.heap.size, 4, none⟩ = some (.int .i64 p) := hX.c4
  have y5 : W1.cell? ⟨w0.heap.size, 5, none⟩ = some (.int .i64 c) := hX.c5
  have y6 : W1.cell? ⟨w0.heap.size, 6, none⟩ = some (.int .i64 b) := hX.c6
  have y7 : W1.cell? ⟨w0.heap.size, 7, none⟩ = some (.int .i64 q) := hX.c7
  have y8 : W1.cell? ⟨w0.heap.size, 8, none⟩ = some (.int .i64 v) := hX.c8
  have y9 : W1.cell? ⟨w0.heap.size, 9, none⟩ = some (.int .i64 u) := hX.c9
  have y10 : W1.cell? ⟨w0.heap.size, 10, none⟩ = some (.bool o) := hX.c10
  have y11 : W1.cell? ⟨w0.heap.size, 11, none⟩ = some (.int .i64 e) := hX.c11
  have y12 : W1.cell? ⟨w0.heap.size, 12, none⟩ = some (.int .u64 (s : Int)) := hX.c12
  have n0 : W1.cell? ⟨wk.heap.size, 0, none⟩ = some (.bool false) := hN.c0
  have n1 : W1.cell? ⟨wk.heap.size, 1, none⟩ = some (.bool true) := hN.c1
  have n2 : W1.cell? ⟨wk.heap.size, 2, none⟩ = some (.bool false) := hN.c2
  have n3 : W1.cell? ⟨wk.heap.size, 3, none⟩ = some (.bool false) := hN.c3
  have n4 : W1.cell? ⟨wk.heap.size, 4, none⟩ = some (.bool false) := hN.c4
  have n5 : W1.cell? ⟨wk.heap.size, 5, none⟩ = some (.bool false) := hN.c5
  have n6 : W1.cell? ⟨wk.heap.size, 6, none⟩ = some (.bool false) := hN.c6
  have n7 : W1.cell? ⟨wk.heap.size, 7, none⟩ = some (.bool false) := hN.c7
  have n8 : W1.cell? ⟨wk.heap.size, 8, none⟩ = some (.bool false) := hN.c8
  have n9 : W1.cell? ⟨wk.heap.size, 9, none⟩ = some (.bool false) := hN.c9
  have n10 : W1.cell? ⟨wk.heap.size, 10, none⟩ = some (.bool false) := hN.c10
  have hcs := hcas W1
  rw [hW1] at hcs y0 y1 y2 y3 y4 y5 y6 y7 y8 y9 y10 y11 y12 n0 n1 n2 n3 n4 n5 n6 n7 n8 n9 n10
  clear hcas hof hk hb0 hb1 hbox hW0
  go_wp2_with fail
  refine (hkn _).mono ?_
  rintro e' w' ⟨rfl, rfl⟩
  by_cases ha : a < 0
  · have ha2 : decide (0 ≤ a) = false := by simp; omega
    go_wp2_with fail
    go_ret
    exact ⟨ret_v (by rw [HM.out, ha2]; rfl), by rw [← hW1]; exact hB1⟩
  have ha2 : decide (0 ≤ a) = true := by simp; omega
  have ha3 : decide (a < 0) = false := by simp; omega
  have ha4 : 0 ≤ a := by omega
  clear ha
  go_wp2_with fail
  refine hcs.mono ?_
  rw [← hW1]
  rintro e' wb ⟨rfl, hkb⟩
  have hX2 := hX.of_block (hkb.block _ hX.lt (by simp))
  have hN2 := hN.of_block (hkb.block _ hN.lt (by simp))
  have hB := hB1.next hkb
  clear hcs y0 y1 y2 y3 y4 y5 y6 y7 y8 y9 y10 y11 y12 n0 n1 n2 n3 n4 n5 n6 n7 n8 n9 n10 hW1 hX hN hB1 hkb hkn
  rcases (Bool.eq_false_or_eq_true mc).symm with hc | hc
  · rw [hc]
    go_wp2_with fail
    go_ret
    exact ⟨ret_v (by rw [HM.out, ha2, hc]; rfl), hB⟩
  rw [hc]
  have y0 : wb.cell? ⟨w0.heap.size, 0, none⟩ = some (.int .i64 a) := hX2.c0
  have y1 : wb.cell? ⟨w0.heap.size, 1, none⟩ = some (.int .u8 10) := hX2.c1
  have y2 : wb.cell? ⟨w0.heap.size, 2, none⟩ = some (.int .i64 w) := hX2.c2
  have y3 : wb.cell? ⟨w0.heap.size, 3, none⟩ = some (.int .i64 t) := hX2.c3
  have y4 : wb.cell? ⟨w0.heap.size, 4, none⟩ = some (.int .i64 p) := hX2.c4
  have y5 : wb.cell? ⟨w0.heap.size, 5, none⟩ = some (.int .i64 c) := hX2.c5
  have y6 : wb.cell? ⟨w0.heap.size, 6, none⟩ = some (.int .i64 b) := hX2.c6
  have y7 : wb.cell? ⟨w0.heap.size, 7, none⟩ = some (.int .i64 q) := hX2.c7
  have y8 : wb.cell? ⟨w0.heap.size, 8, none⟩ = some (.int .i64 v) := hX2.c8
  have y9 : wb.cell? ⟨w0.heap.size, 9, none⟩ = some (.int .i64 u) := hX2.c9
  have y10 : wb.cell? ⟨w0.heap.size, 10, none⟩ = some (.bool o) := hX2.c10
  have y11 : wb.cell? ⟨w0.heap.size, 11, none⟩ = some (.int .i64 e) := hX2.c11
  have y12 : wb.cell? ⟨w0.heap.size, 12, none⟩ = some (.int .u64 (s : Int)) := hX2.c12
  have n0 : wb.cell? ⟨wk.heap.size, 0, none⟩ = some (.bool false) := hN2.c0
  have n1 : wb.cell? ⟨wk.heap.size, 1, none⟩ = some (.bool true) := hN2.c1
  have n2 : wb.cell? ⟨wk.heap.size, 2, none⟩ = some (.bool false) := hN2.c2
  have n3 : wb.cell? ⟨wk.heap.size, 3, none⟩ = some (.bool false) := hN2.c3
  have n4 : wb.cell? ⟨wk.heap.size, 4, none⟩ = some (.bool false) := hN2.c4
  have n5 : wb.cell? ⟨wk.heap.size, 5, none⟩ = some (.bool false) := hN2.c5
  have n6 : wb.cell? ⟨wk.heap.size, 6, none⟩ = some (.bool false) := hN2.c6
  have n7 : wb.cell? ⟨wk.heap.size, 7, none⟩ = some (.bool false) := hN2.c7
  have n8 : wb.cell? ⟨wk.heap.size, 8, none⟩ = some (.bool false) := hN2.c8
  have n9 : wb.cell? ⟨wk.heap.size, 9, none⟩ = some (.bool false) := hN2.c9
  have n10 : wb.cell? ⟨wk.heap.size, 10, none⟩ = some (.bool false) := hN2.c10
  clear ha3 hX2 hN2
  go_wp2_with fail
  refine (rin_any t 0 31 _).mono ?_
  rintro e' w' ⟨rfl, rfl⟩
  rcases (Bool.eq_false_or_eq_true (inB t 0 31)).symm with i0 | i0
  · rw [i0]
    go_wp2_with fail
    go_ret
    exact ⟨ret_v (by rw [HM.out, ha2, hc, i0]; rfl), hB⟩
  rw [i0]
  go_upto_region 9 with fail
  simp only [List.append_eq, List.cons_append, List.nil_append]
  rcases (Bool.eq_false_or_eq_true (w == 0)).symm with z0 | z0
  · go_wp2_with fail
    go_ret
    exact ⟨ret_v (by rw [HM.out, ha2, hc, i0, z0]; rfl), hB⟩
  rcases (Bool.eq_false_or_eq_true (p == 0)).symm with z1 | z1
  · go_wp2_with fail
    go_ret
    exact ⟨ret_v (by rw [HM.out, ha2, hc, i0, z0, z1]; rfl), hB⟩
  rcases (Bool.eq_false_or_eq_true (c == 0)).symm with z2 | z2
  · go_wp2_with fail
    go_ret
    exact ⟨ret_v (by rw [HM.out, ha2, hc, i0, z0, z1, z2]; rfl), hB⟩
  rcases (Bool.eq_false_or_eq_true (v == 0)).symm with z3 | z3
  · go_wp2_with fail
    go_ret
    exact ⟨ret_v (by rw [HM.out, ha2, hc, i0, z0, z1, z2, z3]; rfl), hB⟩
  rcases (Bool.eq_false_or_eq_true (u == 0)).symm with z4 | z4
  · go_wp2_with fail
    go_ret
    exact ⟨ret_v (by rw [HM.out, ha2, hc, i0, z0, z1, z2, z3, z4]; rfl), hB⟩
  rcases (Bool.eq_false_or_eq_true o) with rfl | rfl
  · go_wp2_with fail
    go_ret
    exact ⟨ret_v (by rw [HM.out, ha2, hc, i0, z0, z1, z2, z3, z4]; rfl), hB⟩
  rcases (Bool.eq_false_or_eq_true (e == 0)).symm with z6 | z6
  · go_wp2_with fail
    go_ret
    exact ⟨ret_v (by rw [HM.out, ha2, hc, i0, z0, z1, z2, z3, z4, z6]; rfl), hB⟩
  rcases (Bool.eq_false_or_eq_true ((s : Int) == 0)).symm with z7 | z7
  · go_wp2_with fail
    go_ret
    exact ⟨ret_v (by rw [HM.out, ha2, hc, i0, z0, z1, z2, z3, z4, z6, z7]; rfl), hB⟩
  go_wp2_with fail
  go_ret
  exact ⟨ret_v (by rw [HM.out, ha2, hc, i0, z0, z1, z2, z3, z4, z6, z7]; rfl), hB⟩
theorem may_eq_11 (a w t p c b q v u : Int) (o : Bool) (e : Int) (s : Nat) : okB (⟨a, 11, w, t, p, c, b, q, v, u, o, e, s⟩ : En) = (decide (0 ≤ a) && (((b == 0) && (q == 0)) && (inB t 0 31 && (inB p (-1) 31 && (faultB e && ((w == 0) && ((c == 0) && ((v == 0) && ((u == 0) && ((!o) && (((s : Int) == 0) && true))))))))))) := by
  rw [Bool.eq_iff_iff]
  cases o <;> simp [okB, mayAll, known, namesOf, mayStep, mayN, En.get, bareOf, bareStep, En.put, En.only, En.eq, inB, faultB]
  all_goals first | done | omega | (constructor <;> (intro h; simp_all; try omega)) | skip
set_option maxRecDepth 100000 in
set_option maxHeartbeats 1600000 in
theorem rcases_11 (a w t p c b q v u : Int) (o : Bool) (e : Int) (s : Nat) (m : Bool) (HM : Hid (m = ((b == 0) && (q == 0)))) (w0 : World) :
    Calls Tryd.prog 35 #[.agg #[.int .i64 a, .int .u8 11, .int .i64 w, .int .i64 t, .int .i64 p, .int .i64 c, .int .i64 b, .int .i64 q, .int .i64 v, .int .i64 u, .bool o, .int .i64 e, .int .u64 (s : Int)], .agg #[.bool false, .bool true, .bool true, .bool false, .bool false, .bool false, .bool false, .bool false, .bool false, .bool true, .bool false]] w0 fun e' W' => e' = .returned (.bool m) ∧ But [] w0 W' := by
  have hb0 : But [] w0 ((w0.alloc (.cells #[.int .i64 a, .int .u8 11, .int .i64 w, .int .i64 t, .int .i64 p, .int .i64 c, .int .i64 b, .int .i64 q, .int .i64 v, .int .i64 u, .bool o, .int .i64 e, .int .u64 (s : Int)] 26)).alloc (.cells #[.bool false, .bool true, .bool true, .bool false, .bool false, .bool false, .bool false, .bool false, .bool false, .bool true, .bool false] 56)) := ((But.refl [] w0).alloc _).alloc _
  go_enter Tryd.func35, Tryd.ntmps35
  rcases (Bool.eq_false_or_eq_true (b == 0)).symm with z1 | z1
  · have z2 : (b != 0) = true := by rw [bne, z1]; rfl
    go_wp2_with fail
    go_ret
    exact ⟨ret_v (by rw [HM.out, z1]; rfl), hb0⟩
  have z2 : (b != 0) = false := by rw [bne, z1]; rfl
  rcases (Bool.eq_false_or_eq_true (q == 0)).symm with z3 | z3
  all_goals
    go_wp2_with fail
    go_ret
    exact ⟨ret_v (by rw [HM.out, z1, z3]; rfl), hb0⟩
set_option maxRecDepth 100000 in
set_option maxHeartbeats 12800000 in
theorem rmay_11 (a w t p c b q v u : Int) (o : Bool) (e : Int) (s : Nat) (w0 : World) :
    Calls Tryd.prog 14 #[.agg #[.int .i64 a, .int .u8 11, .int .i64 w, .int .i64 t, .int .i64 p, .int .i64 c, .int .i64 b, .int .i64 q, .int .i64 v, .int .i64 u, .bool o, .int .i64 e, .int .u64 (s : Int)]] w0 fun e' W' => e' = .returned (.bool (okB (⟨a, 11, w, t, p, c, b, q, v, u, o, e, s⟩ : En))) ∧ But [] w0 W' := by
  obtain ⟨m, hm⟩ : ∃ m, m = okB (⟨a, 11, w, t, p, c, b, q, v, u, o, e, s⟩ : En) := ⟨_, rfl⟩
  have HM : Hid (m = (decide (0 ≤ a) && (((b == 0) && (q == 0)) && (inB t 0 31 && (inB p (-1) 31 && (faultB e && ((w == 0) && ((c == 0) && ((v == 0) && ((u == 0) && ((!o) && (((s : Int) == 0) && true)))))))))))) := Lib.hid (hm.trans (may_eq_11 a w t p c b q v u o e s))
  obtain ⟨mc, hmc⟩ : ∃ mc, mc = ((b == 0) && (q == 0)) := ⟨_, rfl⟩
  rw [← hmc] at HM
  rw [← hm]
  have hcas := rcases_11 a w t p c b q v u o e s mc (Lib.hid hmc)
  have HMC := Lib.hid hmc
  clear hm hmc
  obtain ⟨W0, hW0⟩ : ∃ W0, W0 = w0.alloc (.cells #[.int .i64 a, .int .u8 11, .int .i64 w, .int .i64 t, .int .i64 p, .int .i64 c, .int .i64 b, .int .i64 q, .int .i64 v, .int .i64 u, .bool o, .int .i64 e, .int .u64 (s : Int)] 26) := ⟨_, rfl⟩
  have hb0 : But [] w0 W0 := by rw [hW0]; exact (But.refl [] w0).alloc _
  have hbox : EnAt W0 w0.heap.size (⟨a, 11, w, t, p, c, b, q, v, u, o, e, s⟩ : En) := by rw [hW0]; exact enAt_new w0 (⟨a, 11, w, t, p, c, b, q, v, u, o, e, s⟩ : En)
  have hof : Calls Tryd.prog 25 #[.int .u8 11] W0 fun e w' => e = .returned (.agg #[.bool false, .bool true, .bool true, .bool false, .bool false, .bool false, .bool false, .bool false, .bool false, .bool true, .bool false]) ∧ But [] W0 w' := rof_any 11 W0
  have hkn : ∀ W, Calls Tryd.prog 34 #[.int .u8 11] W fun e w' => e = .returned (.bool true) ∧ w' = W := fun W => rknown_any 11 W
  rw [hW0] at hof
  go_enter Tryd.func14, Tryd.ntmps14
  go_wp2_with fail
  refine hof.mono ?_
  rw [← hW0]
  rintro e' wk ⟨rfl, hk⟩
  obtain ⟨W1, hW1⟩ : ∃ W1, W1 = wk.alloc (.cells #[.bool false, .bool true, .bool true, .bool false, .bool false, .bool false, .bool false, .bool false, .bool false, .bool true, .bool false] 56) := ⟨_, rfl⟩
  have hb1 : But [] wk W1 := by rw [hW1]; exact (But.refl [] wk).alloc _
  have hX := hbox.of_block ((hk.next hb1).block _ hbox.lt (by simp))
  have hN : NdAt W1 wk.heap.size false true true false false false false false false true false := by rw [hW1]; exact ndAt_new wk false true true false false false false false false true false
  have hB1 : But [] w0 W1 := hb0.next (hk.next hb1)
  have y0 : W1.cell? ⟨w0.heap.size, 0, none⟩ = some (.int .i64 a) := hX.c0
  have y1 : W1.cell? ⟨w0.heap.size, 1, none⟩ = some (.int .u8 11) := hX.c1
  have y2 : W1.cell? ⟨w0.heap.size, 2, none⟩ = some (.int .i64 w) := hX.c2
  have y3 : W1.cell? ⟨w0.heap.size, 3, none⟩ = some (.int .i64 t) := hX.c3
  have y4 : W1.cell? ⟨w0.heap.size, 4, none⟩ = some (.int .i64 p) := hX.c4
  have y5 : W1.cell? ⟨w0.heap.size, 5, none⟩ = some (.int .i64 c) := hX.c5
  have y6 : W1.cell? ⟨w0.heap.size, 6, none⟩ = some (.int .i64 b) := hX.c6
  have y7 : W1.cell? ⟨w0.heap.size, 7, none⟩ = some (.int .i64 q) := hX.c7
  have y8 : W1.cell? ⟨w0.heap.size, 8, none⟩ = some (.int .i64 v) := hX.c8
  have y9 : W1.cell? ⟨w0.heap.size, 9, none⟩ = some (.int .i64 u) := hX.c9
  have y10 : W1.cell? ⟨w0.heap.size, 10, none⟩ = some (.bool o) := hX.c10
  have y11 : W1.cell? ⟨w0.heap.size, 11, none⟩ = some (.int .i64 e) := hX.c11
  have y12 : W1.cell? ⟨w0.heap.size, 12, none⟩ = some (.int .u64 (s : Int)) := hX.c12
  have n0 : W1.cell? ⟨wk.heap.size, 0, none⟩ = some (.bool false) := hN.c0
  have n1 : W1.cell? ⟨wk.heap.size, 1, none⟩ = some (.bool true) := hN.c1
  have n2 : W1.cell? ⟨wk.heap.size, 2, none⟩ = some (.bool true) := hN.c2
  have n3 : W1.cell? ⟨wk.heap.size, 3, none⟩ = some (.bool false) := hN.c3
  have n4 : W1.cell? ⟨wk.heap.size, 4, none⟩ = some (.bool false) := hN.c4
  have n5 : W1.cell? ⟨wk.heap.size, 5, none⟩ = some (.bool false) := hN.c5
  have n6 : W1.cell? ⟨wk.heap.size, 6, none⟩ = some (.bool false) := hN.c6
  have n7 : W1.cell? ⟨wk.heap.size, 7, none⟩ = some (.bool false) := hN.c7
  have n8 : W1.cell? ⟨wk.heap.size, 8, none⟩ = some (.bool false) := hN.c8
  have n9 : W1.cell? ⟨wk.heap.size, 9, none⟩ = some (.bool true) := hN.c9
  have n10 : W1.cell? ⟨wk.heap.size, 10, none⟩ = some (.bool false) := hN.c10
  have hcs := hcas W1
  rw [hW1] at hcs y0 y1 y2 y3 y4 y5 y6 y7 y8 y9 y10 y11 y12 n0 n1 n2 n3 n4 n5 n6 n7 n8 n9 n10
  clear hcas hof hk hb0 hb1 hbox hW0
  go_wp2_with fail
  refine (hkn _).mono ?_
  rintro e' w' ⟨rfl, rfl⟩
  by_cases ha : a < 0
  · have ha2 : decide (0 ≤ a) = false := by simp; omega
    go_wp2_with fail
    go_ret
    exact ⟨ret_v (by rw [HM.out, ha2]; rfl), by rw [← hW1]; exact hB1⟩
  have ha2 : decide (0 ≤ a) = true := by simp; omega
  have ha3 : decide (a < 0) = false := by simp; omega
  have ha4 : 0 ≤ a := by omega
  clear ha
  go_wp2_with fail
  refine hcs.mono ?_
  rw [← hW1]
  rintro e' wb ⟨rfl, hkb⟩
  have hX2 := hX.of_block (hkb.block _ hX.lt (by simp))
  have hN2 := hN.of_block (hkb.block _ hN.lt (by simp))
  have hB := hB1.next hkb
  clear hcs y0 y1 y2 y3 y4 y5 y6 y7 y8 y9 y10 y11 y12 n0 n1 n2 n3 n4 n5 n6 n7 n8 n9 n10 hW1 hX hN hB1 hkb hkn
  rcases (Bool.eq_false_or_eq_true mc).symm with hc | hc
  · rw [hc]
    go_wp2_with fail
    go_ret
    exact ⟨ret_v (by rw [HM.out, ha2, hc]; rfl), hB⟩
  rw [hc]
  have y0 : wb.cell? ⟨w0.heap.size, 0, none⟩ = some (.int .i64 a) := hX2.c0
  have y1 : wb.cell? ⟨w0.heap.size, 1, none⟩ = some (.int .u8 11) := hX2.c1
  have y2 : wb.cell? ⟨w0.heap.size, 2, none⟩ = some (.int .i64 w) := hX2.c2
  have y3 : wb.cell? ⟨w0.heap.size, 3, none⟩ = some (.int .i64 t) := hX2.c3
  have y4 : wb.cell? ⟨w0.heap.size, 4, none⟩ = some (.int .i64 p) := hX2.c4
  have y5 : wb.cell? ⟨w0.heap.size, 5, none⟩ = some (.int .i64 c) := hX2.c5
  have y6 : wb.cell? ⟨w0.heap.size, 6, none⟩ = some (.int .i64 b) := hX2.c6
  have y7 : wb.cell? ⟨w0.heap.size, 7, none⟩ = some (.int .i64 q) := hX2.c7
  have y8 : wb.cell? ⟨w0.heap.size, 8, none⟩ = some (.int .i64 v) := hX2.c8
  have y9 : wb.cell? ⟨w0.heap.size, 9, none⟩ = some (.int .i64 u) := hX2.c9
  have y10 : wb.cell? ⟨w0.heap.size, 10, none⟩ = some (.bool o) := hX2.c10
  have y11 : wb.cell? ⟨w0.heap.size, 11, none⟩ = some (.int .i64 e) := hX2.c11
  have y12 : wb.cell? ⟨w0.heap.size, 12, none⟩ = some (.int .u64 (s : Int)) := hX2.c12
  have n0 : wb.cell? ⟨wk.heap.size, 0, none⟩ = some (.bool false) := hN2.c0
  have n1 : wb.cell? ⟨wk.heap.size, 1, none⟩ = some (.bool true) := hN2.c1
  have n2 : wb.cell? ⟨wk.heap.size, 2, none⟩ = some (.bool true) := hN2.c2
  have n3 : wb.cell? ⟨wk.heap.size, 3, none⟩ = some (.bool false) := hN2.c3
  have n4 : wb.cell? ⟨wk.heap.size, 4, none⟩ = some (.bool false) := hN2.c4
  have n5 : wb.cell? ⟨wk.heap.size, 5, none⟩ = some (.bool false) := hN2.c5
  have n6 : wb.cell? ⟨wk.heap.size, 6, none⟩ = some (.bool false) := hN2.c6
  have n7 : wb.cell? ⟨wk.heap.size, 7, none⟩ = some (.bool false) := hN2.c7
  have n8 : wb.cell? ⟨wk.heap.size, 8, none⟩ = some (.bool false) := hN2.c8
  have n9 : wb.cell? ⟨wk.heap.size, 9, none⟩ = some (.bool true) := hN2.c9
  have n10 : wb.cell? ⟨wk.heap.size, 10, none⟩ = some (.bool false) := hN2.c10
  clear ha3 hX2 hN2
  go_wp2_with fail
  refine (rin_any t 0 31 _).mono ?_
  rintro e' w' ⟨rfl, rfl⟩
  rcases (Bool.eq_false_or_eq_true (inB t 0 31)).symm with i0 | i0
  · rw [i0]
    go_wp2_with fail
    go_ret
    exact ⟨ret_v (by rw [HM.out, ha2, hc, i0]; rfl), hB⟩
  rw [i0]
  go_wp2_with fail
  refine (rin_any p (-1) 31 _).mono ?_
  rintro e' w' ⟨rfl, rfl⟩
  rcases (Bool.eq_false_or_eq_true (inB p (-1) 31)).symm with i1 | i1
  · rw [i1]
    go_wp2_with fail
    go_ret
    exact ⟨ret_v (by rw [HM.out, ha2, hc, i0, i1]; rfl), hB⟩
  rw [i1]
  go_wp2_with fail
  refine (rfault_any e _).mono ?_
  rintro e' w' ⟨rfl, rfl⟩
  rcases (Bool.eq_false_or_eq_true (faultB e)).symm with i2 | i2
  · rw [i2]
    go_wp2_with fail
    go_ret
    exact ⟨ret_v (by rw [HM.out, ha2, hc, i0, i1, i2]; rfl), hB⟩
  rw [i2]
  go_upto_region 9 with fail
  simp only [List.append_eq, List.cons_append, List.nil_append]
  rcases (Bool.eq_false_or_eq_true (w == 0)).symm with z0 | z0
  · go_wp2_with fail
    go_ret
    exact ⟨ret_v (by rw [HM.out, ha2, hc, i0, i1, i2, z0]; rfl), hB⟩
  rcases (Bool.eq_false_or_eq_true (c == 0)).symm with z1 | z1
  · go_wp2_with fail
    go_ret
    exact ⟨ret_v (by rw [HM.out, ha2, hc, i0, i1, i2, z0, z1]; rfl), hB⟩
  rcases (Bool.eq_false_or_eq_true (v == 0)).symm with z2 | z2
  · go_wp2_with fail
    go_ret
    exact ⟨ret_v (by rw [HM.out, ha2, hc, i0, i1, i2, z0, z1, z2]; rfl), hB⟩
  rcases (Bool.eq_false_or_eq_true (u == 0)).symm with z3 | z3
  · go_wp2_with fail
    go_ret
    exact ⟨ret_v (by rw [HM.out, ha2, hc, i0, i1, i2, z0, z1, z2, z3]; rfl), hB⟩
  rcases (Bool.eq_false_or_eq_true o) with rfl | rfl
  · go_wp2_with fail
    go_ret
    exact ⟨ret_v (by rw [HM.out, ha2, hc, i0, i1, i2, z0, z1, z2, z3]; rfl), hB⟩
  rcases (Bool.eq_false_or_eq_true ((s : Int) == 0)).symm with z5 | z5
  · go_wp2_with fail
    go_ret
    exact ⟨ret_v (by rw [HM.out, ha2, hc, i0, i1, i2, z0, z1, z2, z3, z5]; rfl), hB⟩
  go_wp2_with fail
  go_ret
  exact ⟨ret_v (by rw [HM.out, ha2, hc, i0, i1, i2, z0, z1, z2, z3, z5]; rfl), hB⟩
theorem may_eq_21 (a w t p c b q v u : Int) (o : Bool) (e : Int) (s : Nat) : okB (⟨a, 21, w, t, p, c, b, q, v, u, o, e, s⟩ : En) = (decide (0 ≤ a) && (((b == 0) && (q == 0)) && (inB w 0 254 && (inB t 0 31 && ((p == 0) && ((c == 0) && ((v == 0) && ((u == 0) && ((!o) && ((e == 0) && (((s : Int) == 0) && true))))))))))) := by
  rw [Bool.eq_iff_iff]
  cases o <;> simp [okB, mayAll, known, namesOf, mayStep, mayN, En.get, bareOf, bareStep, En.put, En.only, En.eq, inB]
  all_goals first | done | omega | (constructor <;> (intro h; simp_all; try omega)) | skip
set_option maxRecDepth 100000 in
set_option maxHeartbeats 1600000 in
theorem rcases_21 (a w t p c b q v u : Int) (o : Bool) (e : Int) (s : Nat) (m : Bool) (HM : Hid (m = ((b == 0) && (q == 0)))) (w0 : World) :
    Calls Tryd.prog 35 #[.agg #[.int .i64 a, .int .u8 21, .int .i64 w, .int .i64 t, .int .i64 p, .int .i64 c, .int .i64 b, .int .i64 q, .int .i64 v, .int .i64 u, .bool o, .int .i64 e, .int .u64 (s : Int)], .agg #[.bool true, .bool true, .bool false, .bool false, .bool false, .bool false, .bool false, .bool false, .bool false, .bool false, .bool false]] w0 fun e' W' => e' = .returned (.bool m) ∧ But [] w0 W' := by
  have hb0 : But [] w0 ((w0.alloc (.cells #[.int .i64 a, .int .u8 21, .int .i64 w, .int .i64 t, .int .i64 p, .int .i64 c, .int .i64 b, .int .i64 q, .int .i64 v, .int .i64 u, .bool o, .int .i64 e, .int .u64 (s : Int)] 26)).alloc (.cells #[.bool true, .bool true, .bool false, .bool false, .bool false, .bool false, .bool false, .bool false, .bool false, .bool false, .bool false] 56)) := ((But.refl [] w0).alloc _).alloc _
  go_enter Tryd.func35, Tryd.ntmps35
  rcases (Bool.eq_false_or_eq_true (b == 0)).symm with z1 | z1
  · have z2 : (b != 0) = true := by rw [bne, z1]; rfl
    go_wp2_with fail
    go_ret
    exact ⟨ret_v (by rw [HM.out, z1]; rfl), hb0⟩
  have z2 : (b != 0) = false := by rw [bne, z1]; rfl
  rcases (Bool.eq_false_or_eq_true (q == 0)).symm with z3 | z3
  all_goals
    go_wp2_with fail
    go_ret
    exact ⟨ret_v (by rw [HM.out, z1, z3]; rfl), hb0⟩
set_option maxRecDepth 100000 in
set_option maxHeartbeats 12800000 in
theorem rmay_21 (a w t p c b q v u : Int) (o : Bool) (e : Int) (s : Nat) (w0 : World) :
    Calls Tryd.prog 14 #[.agg #[.int .i64 a, .int .u8 21, .int .i64 w, .int .i64 t, .int .i64 p, .int .i64 c, .int .i64 b, .int .i64 q, .int .i64 v, .int .i64 u, .bool o, .int .i64 e, .int .u64 (s : Int)]] w0 fun e' W' => e' = .returned (.bool (okB (⟨a, 21, w, t, p, c, b, q, v, u, o, e, s⟩ : En))) ∧ But [] w0 W' := by
  obtain ⟨m, hm⟩ : ∃ m, m = okB (⟨a, 21, w, t, p, c, b, q, v, u, o, e, s⟩ : En) := ⟨_, rfl⟩
  have HM : Hid (m = (decide (0 ≤ a) && (((b == 0) && (q == 0)) && (inB w 0 254 && (inB t 0 31 && ((p == 0) && ((c == 0) && ((v == 0) && ((u == 0) && ((!o) && ((e == 0) && (((s : Int) == 0) && true)))))))))))) := Lib.hid (hm.trans (may_eq_21 a w t p c b q v u o e s))
  obtain ⟨mc, hmc⟩ : ∃ mc, mc = ((b == 0) && (q == 0)) := ⟨_, rfl⟩
  rw [← hmc] at HM
  rw [← hm]
  have hcas := rcases_21 a w t p c b q v u o e s mc (Lib.hid hmc)
  have HMC := Lib.hid hmc
  clear hm hmc
  obtain ⟨W0, hW0⟩ : ∃ W0, W0 = w0.alloc (.cells #[.int .i64 a, .int .u8 21, .int .i64 w, .int .i64 t, .int .i64 p, .int .i64 c, .int .i64 b, .int .i64 q, .int .i64 v, .int .i64 u, .bool o, .int .i64 e, .int .u64 (s : Int)] 26) := ⟨_, rfl⟩
  have hb0 : But [] w0 W0 := by rw [hW0]; exact (But.refl [] w0).alloc _
  have hbox : EnAt W0 w0.heap.size (⟨a, 21, w, t, p, c, b, q, v, u, o, e, s⟩ : En) := by rw [hW0]; exact enAt_new w0 (⟨a, 21, w, t, p, c, b, q, v, u, o, e, s⟩ : En)
  have hof : Calls Tryd.prog 25 #[.int .u8 21] W0 fun e w' => e = .returned (.agg #[.bool true, .bool true, .bool false, .bool false, .bool false, .bool false, .bool false, .bool false, .bool false, .bool false, .bool false]) ∧ But [] W0 w' := rof_any 21 W0
  have hkn : ∀ W, Calls Tryd.prog 34 #[.int .u8 21] W fun e w' => e = .returned (.bool true) ∧ w' = W := fun W => rknown_any 21 W
  rw [hW0] at hof
  go_enter Tryd.func14, Tryd.ntmps14
  go_wp2_with fail
  refine hof.mono ?_
  rw [← hW0]
  rintro e' wk ⟨rfl, hk⟩
  obtain ⟨W1, hW1⟩ : ∃ W1, W1 = wk.alloc (.cells #[.bool true, .bool true, .bool false, .bool false, .bool false, .bool false, .bool false, .bool false, .bool false, .bool false, .bool false] 56) := ⟨_, rfl⟩
  have hb1 : But [] wk W1 := by rw [hW1]; exact (But.refl [] wk).alloc _
  have hX := hbox.of_block ((hk.next hb1).block _ hbox.lt (by simp))
  have hN : NdAt W1 wk.heap.size true true false false false false false false false false false := by rw [hW1]; exact ndAt_new wk true true false false false false false false false false false
  have hB1 : But [] w0 W1 := hb0.next (hk.next hb1)
  have y0 : W1.cell? ⟨w0.heap.size, 0, none⟩ = some (.int .i64 a) := hX.c0
  have y1 : W1.cell? ⟨w0.heap.size, 1, none⟩ = some (.int .u8 21) := hX.c1
  have y2 : W1.cell? ⟨w0.heap.size, 2, none⟩ = some (.int .i64 w) := hX.c2
  have y3 : W1.cell? ⟨w0.heap.size, 3, none⟩ = some (.int .i64 t) := hX.c3
  have y4 : W1.cell? ⟨w0.heap.size, 4, none⟩ = some (.int .i64 p) := hX.c4
  have y5 : W1.cell? ⟨w0.heap.size, 5, none⟩ = some (.int .i64 c) := hX.c5
  have y6 : W1.cell? ⟨w0.heap.size, 6, none⟩ = some (.int .i64 b) := hX.c6
  have y7 : W1.cell? ⟨w0.heap.size, 7, none⟩ = some (.int .i64 q) := hX.c7
  have y8 : W1.cell? ⟨w0.heap.size, 8, none⟩ = some (.int .i64 v) := hX.c8
  have y9 : W1.cell? ⟨w0.heap.size, 9, none⟩ = some (.int .i64 u) := hX.c9
  have y10 : W1.cell? ⟨w0.heap.size, 10, none⟩ = some (.bool o) := hX.c10
  have y11 : W1.cell? ⟨w0.heap.size, 11, none⟩ = some (.int .i64 e) := hX.c11
  have y12 : W1.cell? ⟨w0.heap.size, 12, none⟩ = some (.int .u64 (s : Int)) := hX.c12
  have n0 : W1.cell? ⟨wk.heap.size, 0, none⟩ = some (.bool true) := hN.c0
  have n1 : W1.cell? ⟨wk.heap.size, 1, none⟩ = some (.bool true) := hN.c1
  have n2 : W1.cell? ⟨wk.heap.size, 2, none⟩ = some (.bool false) := hN.c2
  have n3 : W1.cell? ⟨wk.heap.size, 3, none⟩ = some (.bool false) := hN.c3
  have n4 : W1.cell? ⟨wk.heap.size, 4, none⟩ = some (.bool false) := hN.c4
  have n5 : W1.cell? ⟨wk.heap.size, 5, none⟩ = some (.bool false) := hN.c5
  have n6 : W1.cell? ⟨wk.heap.size, 6, none⟩ = some (.bool false) := hN.c6
  have n7 : W1.cell? ⟨wk.heap.size, 7, none⟩ = some (.bool false) := hN.c7
  have n8 : W1.cell? ⟨wk.heap.size, 8, none⟩ = some (.bool false) := hN.c8
  have n9 : W1.cell? ⟨wk.heap.size, 9, none⟩ = some (.bool false) := hN.c9
  have n10 : W1.cell? ⟨wk.heap.size, 10, none⟩ = some (.bool false) := hN.c10
  have hcs := hcas W1
  rw [hW1] at hcs y0 y1 y2 y3 y4 y5 y6 y7 y8 y9 y10 y11 y12 n0 n1 n2 n3 n4 n5 n6 n7 n8 n9 n10
  clear hcas hof hk hb0 hb1 hbox hW0
  go_wp2_with fail
  refine (hkn _).mono ?_
  rintro e' w' ⟨rfl, rfl⟩
  by_cases ha : a < 0
  · have ha2 : decide (0 ≤ a) = false := by simp; omega
    go_wp2_with fail
    go_ret
    exact ⟨ret_v (by rw [HM.out, ha2]; rfl), by rw [← hW1]; exact hB1⟩
  have ha2 : decide (0 ≤ a) = true := by simp; omega
  have ha3 : decide (a < 0) = false := by simp; omega
  have ha4 : 0 ≤ a := by omega
  clear ha
  go_wp2_with fail
  refine hcs.mono ?_
  rw [← hW1]
  rintro e' wb ⟨rfl, hkb⟩
  have hX2 := hX.of_block (hkb.block _ hX.lt (by simp))
  have hN2 := hN.of_block (hkb.block _ hN.lt (by simp))
  have hB := hB1.next hkb
  clear hcs y0 y1 y2 y3 y4 y5 y6 y7 y8 y9 y10 y11 y12 n0 n1 n2 n3 n4 n5 n6 n7 n8 n9 n10 hW1 hX hN hB1 hkb hkn
  rcases (Bool.eq_false_or_eq_true mc).symm with hc | hc
  · rw [hc]
    go_wp2_with fail
    go_ret
    exact ⟨ret_v (by rw [HM.out, ha2, hc]; rfl), hB⟩
  rw [hc]
  have y0 : wb.cell? ⟨w0.heap.size, 0, none⟩ = some (.int .i64 a) := hX2.c0
  have y1 : wb.cell? ⟨w0.heap.size, 1, none⟩ = some (.int .u8 21) := hX2.c1
  have y2 : wb.cell? ⟨w0.heap.size, 2, none⟩ = some (.int .i64 w) := hX2.c2
  have y3 : wb.cell? ⟨w0.heap.size, 3, none⟩ = some (.int .i64 t) := hX2.c3
  have y4 : wb.cell? ⟨w0.heap.size, 4, none⟩ = some (.int .i64 p) := hX2.c4
  have y5 : wb.cell? ⟨w0.heap.size, 5, none⟩ = some (.int .i64 c) := hX2.c5
  have y6 : wb.cell? ⟨w0.heap.size, 6, none⟩ = some (.int .i64 b) := hX2.c6
  have y7 : wb.cell? ⟨w0.heap.size, 7, none⟩ = some (.int .i64 q) := hX2.c7
  have y8 : wb.cell? ⟨w0.heap.size, 8, none⟩ = some (.int .i64 v) := hX2.c8
  have y9 : wb.cell? ⟨w0.heap.size, 9, none⟩ = some (.int .i64 u) := hX2.c9
  have y10 : wb.cell? ⟨w0.heap.size, 10, none⟩ = some (.bool o) := hX2.c10
  have y11 : wb.cell? ⟨w0.heap.size, 11, none⟩ = some (.int .i64 e) := hX2.c11
  have y12 : wb.cell? ⟨w0.heap.size, 12, none⟩ = some (.int .u64 (s : Int)) := hX2.c12
  have n0 : wb.cell? ⟨wk.heap.size, 0, none⟩ = some (.bool true) := hN2.c0
  have n1 : wb.cell? ⟨wk.heap.size, 1, none⟩ = some (.bool true) := hN2.c1
  have n2 : wb.cell? ⟨wk.heap.size, 2, none⟩ = some (.bool false) := hN2.c2
  have n3 : wb.cell? ⟨wk.heap.size, 3, none⟩ = some (.bool false) := hN2.c3
  have n4 : wb.cell? ⟨wk.heap.size, 4, none⟩ = some (.bool false) := hN2.c4
  have n5 : wb.cell? ⟨wk.heap.size, 5, none⟩ = some (.bool false) := hN2.c5
  have n6 : wb.cell? ⟨wk.heap.size, 6, none⟩ = some (.bool false) := hN2.c6
  have n7 : wb.cell? ⟨wk.heap.size, 7, none⟩ = some (.bool false) := hN2.c7
  have n8 : wb.cell? ⟨wk.heap.size, 8, none⟩ = some (.bool false) := hN2.c8
  have n9 : wb.cell? ⟨wk.heap.size, 9, none⟩ = some (.bool false) := hN2.c9
  have n10 : wb.cell? ⟨wk.heap.size, 10, none⟩ = some (.bool false) := hN2.c10
  clear ha3 hX2 hN2
  go_wp2_with fail
  refine (rin_any w 0 254 _).mono ?_
  rintro e' w' ⟨rfl, rfl⟩
  rcases (Bool.eq_false_or_eq_true (inB w 0 254)).symm with i0 | i0
  · rw [i0]
    go_wp2_with fail
    go_ret
    exact ⟨ret_v (by rw [HM.out, ha2, hc, i0]; rfl), hB⟩
  rw [i0]
  go_wp2_with fail
  refine (rin_any t 0 31 _).mono ?_
  rintro e' w' ⟨rfl, rfl⟩
  rcases (Bool.eq_false_or_eq_true (inB t 0 31)).symm with i1 | i1
  · rw [i1]
    go_wp2_with fail
    go_ret
    exact ⟨ret_v (by rw [HM.out, ha2, hc, i0, i1]; rfl), hB⟩
  rw [i1]
  go_upto_region 9 with fail
  simp only [List.append_eq, List.cons_append, List.nil_append]
  rcases (Bool.eq_false_or_eq_true (p == 0)).symm with z0 | z0
  · go_wp2_with fail
    go_ret
    exact ⟨ret_v (by rw [HM.out, ha2, hc, i0, i1, z0]; rfl), hB⟩
  rcases (Bool.eq_false_or_eq_true (c == 0)).symm with z1 | z1
  · go_wp2_with fail
    go_ret
    exact ⟨ret_v (by rw [HM.out, ha2, hc, i0, i1, z0, z1]; rfl), hB⟩
  rcases (Bool.eq_false_or_eq_true (v == 0)).symm with z2 | z2
  · go_wp2_with fail
    go_ret
    exact ⟨ret_v (by rw [HM.out, ha2, hc, i0, i1, z0, z1, z2]; rfl), hB⟩
  rcases (Bool.eq_false_or_eq_true (u == 0)).symm with z3 | z3
  · go_wp2_with fail
    go_ret
    exact ⟨ret_v (by rw [HM.out, ha2, hc, i0, i1, z0, z1, z2, z3]; rfl), hB⟩
  rcases (Bool.eq_false_or_eq_true o) with rfl | rfl
  · go_wp2_with fail
    go_ret
    exact ⟨ret_v (by rw [HM.out, ha2, hc, i0, i1, z0, z1, z2, z3]; rfl), hB⟩
  rcases (Bool.eq_false_or_eq_true (e == 0)).symm with z5 | z5
  · go_wp2_with fail
    go_ret
    exact ⟨ret_v (by rw [HM.out, ha2, hc, i0, i1, z0, z1, z2, z3, z5]; rfl), hB⟩
  rcases (Bool.eq_false_or_eq_true ((s : Int) == 0)).symm with z6 | z6
  · go_wp2_with fail
    go_ret
    exact ⟨ret_v (by rw [HM.out, ha2, hc, i0, i1, z0, z1, z2, z3, z5, z6]; rfl), hB⟩
  go_wp2_with fail
  go_ret
  exact ⟨ret_v (by rw [HM.out, ha2, hc, i0, i1, z0, z1, z2, z3, z5, z6]; rfl), hB⟩
end Go.Proofs.YtengpehiknoheaaDoor
