/-
  The walks of namedBy and its closure, of namer and its closure: which fields of an instruction have bytes.
-/
import Derived.Test.YtakgcienodigpaaGreatKPure
import Derived.Test.YtakgcienodigpaaGreatGSites
import Derived.Test.YtakgcienodigpaaGreatGCatch
namespace Go.Proofs.YtakgcienodigpaaGreat
open Go.RowKit Go.Maps

def fldV (o : Nat) : Value := .agg #[.bool (fldA o), .bool (fldB o), .bool (fldC o), .bool (fldK o)]
theorem fld_out {o : Nat} (h : known o = false) : fldA o = false ∧ fldB o = false ∧ fldC o = false ∧ fldK o = false := by
  simp [fldA, fldB, fldC, fldK, namesOf_out h]
theorem check_out {o : Nat} (h : known o = false) (a b c k : Int) : checkB ⟨o, a, b, c, k⟩ 2 2 2 2 = false := by
  simp [checkB, pairs, namesOf_out h, okI, h]
theorem check_fld (o : Nat) : checkB ⟨o, 1, 0, 0, 0⟩ 2 2 2 2 = fldA o ∧ checkB ⟨o, 0, 1, 0, 0⟩ 2 2 2 2 = fldB o ∧ checkB ⟨o, 0, 0, 1, 0⟩ 2 2 2 2 = fldC o ∧ checkB ⟨o, 0, 0, 0, 1⟩ 2 2 2 2 = fldK o := by
  cases h : known o with
  | false =>
    obtain ⟨h1, h2, h3, h4⟩ := fld_out h
    rw [h1, h2, h3, h4]
    exact ⟨check_out h .., check_out h .., check_out h .., check_out h ..⟩
  | true => rcases known_cases h with rfl | rfl | rfl | rfl | rfl | rfl | rfl | rfl | rfl | rfl <;> decide

set_option maxRecDepth 100000 in
set_option maxHeartbeats 800000 in
theorem may1_any (pb o0 : Nat) (x : In) (hx : x.ok) (w : World) (ho : o0 < 256) (hc : w.cell? ⟨pb, 0, none⟩ = some (.int .u8 (o0 : Int))) :
    Calls Tryz.prog 92 #[.agg #[.int .u8 (x.o : Int), .int .i64 x.a, .int .i64 x.b, .int .i64 x.c, .int .i64 x.k], .pointer (some ⟨pb, 0, none⟩)] w fun e w' => e = .returned (.bool (checkB ⟨o0, x.a, x.b, x.c, x.k⟩ 2 2 2 2)) ∧ Below w.heap.size w w' := by
  have hpl := World.block_lt_of_cell? w _ hc
  simp only at hpl
  have hy : In.ok ⟨o0, x.a, x.b, x.c, x.k⟩ := ⟨ho, hx.a, hx.b, hx.c, hx.k⟩
  have hcc : (w.alloc (.cells #[.int .u8 (x.o : Int), .int .i64 x.a, .int .i64 x.b, .int .i64 x.c, .int .i64 x.k] 42)).cell? ⟨pb, 0, none⟩ = some (.int .u8 (o0 : Int)) := (((Below.refl _ w).alloc (Nat.le_refl _) _).cell hpl).trans hc
  have hb0 : Below w.heap.size w (w.alloc (.cells #[.int .u8 (o0 : Int), .int .i64 x.a, .int .i64 x.b, .int .i64 x.c, .int .i64 x.k] 42)) := (Below.refl _ w).alloc (Nat.le_refl _) _
  have hk : ∀ W, Calls Tryz.prog 71 #[.agg #[.int .u8 (o0 : Int), .int .i64 x.a, .int .i64 x.b, .int .i64 x.c, .int .i64 x.k], .int .i64 2, .int .i64 2, .int .i64 2, .int .i64 2] W fun e w' => e = .returned (.int .i64 (checkE ⟨o0, x.a, x.b, x.c, x.k⟩ 2 2 2 2)) ∧ Below W.heap.size W w' := fun W => check_any ⟨o0, x.a, x.b, x.c, x.k⟩ hy 2 2 2 2 W
  have HE : Hid ((checkE ⟨o0, x.a, x.b, x.c, x.k⟩ 2 2 2 2 == 0) = checkB ⟨o0, x.a, x.b, x.c, x.k⟩ 2 2 2 2) := Lib.hid (by unfold checkE; cases checkB ⟨o0, x.a, x.b, x.c, x.k⟩ 2 2 2 2 <;> rfl)
  go_enter Tryz.func92, Tryz.ntmps92
  go_wp2_with (go_at_call 71; refine (hk _).mono ?_; rintro e w1 ⟨rfl, hb⟩)
  go_ret
  exact ⟨ret_v (by rw [HE.out]; rfl), below_next hb0 hb (Nat.le_refl _)⟩

set_option maxRecDepth 100000 in
set_option maxHeartbeats 1600000 in
theorem namedBy_any (o : Nat) (ho : o < 256) (w : World) :
    Calls Tryz.prog 76 #[.int .u8 (o : Int)] w fun e w' => e = .returned (fldV o) ∧ Below w.heap.size w w' := by
  obtain ⟨f1, f2, f3, f4⟩ := check_fld o
  have hz : (In.ok ⟨0, 0, 0, 0, 0⟩) := ⟨by simp, i64_zero, i64_zero, i64_zero, i64_zero⟩
  have h1b : I64b 1 := ⟨by omega, by omega⟩
  have c1 : ∀ W : World, W.cell? ⟨w.heap.size, 0, none⟩ = some (.int .u8 (o : Int)) → Calls Tryz.prog 92 #[.agg #[.int .u8 0, .int .i64 1, .int .i64 0, .int .i64 0, .int .i64 0], .pointer (some ⟨w.heap.size, 0, none⟩)] W fun e w' => e = .returned (.bool (fldA o)) ∧ Below W.heap.size W w' := fun W hW => f1 ▸ may1_any w.heap.size o ⟨0, 1, 0, 0, 0⟩ ⟨by simp, h1b, i64_zero, i64_zero, i64_zero⟩ W ho hW
  have c2 : ∀ W : World, W.cell? ⟨w.heap.size, 0, none⟩ = some (.int .u8 (o : Int)) → Calls Tryz.prog 92 #[.agg #[.int .u8 0, .int .i64 0, .int .i64 1, .int .i64 0, .int .i64 0], .pointer (some ⟨w.heap.size, 0, none⟩)] W fun e w' => e = .returned (.bool (fldB o)) ∧ Below W.heap.size W w' := fun W hW => f2 ▸ may1_any w.heap.size o ⟨0, 0, 1, 0, 0⟩ ⟨by simp, i64_zero, h1b, i64_zero, i64_zero⟩ W ho hW
  have c3 : ∀ W : World, W.cell? ⟨w.heap.size, 0, none⟩ = some (.int .u8 (o : Int)) → Calls Tryz.prog 92 #[.agg #[.int .u8 0, .int .i64 0, .int .i64 0, .int .i64 1, .int .i64 0], .pointer (some ⟨w.heap.size, 0, none⟩)] W fun e w' => e = .returned (.bool (fldC o)) ∧ Below W.heap.size W w' := fun W hW => f3 ▸ may1_any w.heap.size o ⟨0, 0, 0, 1, 0⟩ ⟨by simp, i64_zero, i64_zero, h1b, i64_zero⟩ W ho hW
  have c4 : ∀ W : World, W.cell? ⟨w.heap.size, 0, none⟩ = some (.int .u8 (o : Int)) → Calls Tryz.prog 92 #[.agg #[.int .u8 0, .int .i64 0, .int .i64 0, .int .i64 0, .int .i64 1], .pointer (some ⟨w.heap.size, 0, none⟩)] W fun e w' => e = .returned (.bool (fldK o)) ∧ Below W.heap.size W w' := fun W hW => f4 ▸ may1_any w.heap.size o ⟨0, 0, 0, 0, 1⟩ ⟨by simp, i64_zero, i64_zero, i64_zero, h1b⟩ W ho hW
  obtain ⟨W0, hW0⟩ : ∃ W0, W0 = (w.alloc (.cells #[.int .u8 (o : Int)] 5)).alloc (.cells #[.bool false, .bool false, .bool false, .bool false] 99) := ⟨_, rfl⟩
  have hB0 : Below w.heap.size w W0 := by rw [hW0]; exact below2 w _ _
  have hc0 : W0.cell? ⟨w.heap.size, 0, none⟩ = some (.int .u8 (o : Int)) := by
    rw [hW0]
    exact ((blk_new w 5 #[.int .u8 (o : Int)]).alloc _).cell rfl
  have hk0 : Blk W0 (w.heap.size + 1) 99 #[.bool false, .bool false, .bool false, .bool false] := by
    rw [hW0]
    have := blk_new (w.alloc (.cells #[.int .u8 (o : Int)] 5)) 99 #[.bool false, .bool false, .bool false, .bool false]
    rw [World.size_alloc] at this; exact this
  have m0 : w.heap.size ≤ W0.heap.size := hB0.size
  clear f1 f2 f3 f4
  go_enter Tryz.func76, Tryz.ntmps76
  go_wp2_with fail
  rw [← hW0]
  clear hW0
  refine (c1 _ hc0).mono ?_
  rintro e w1 ⟨rfl, hb1⟩
  have hc1 := keepB hb1 hc0
  have hk1 := keepK hb1 hk0
  have hB1 := below_next hB0 hb1 (Nat.le_refl _)
  clear c1 hc0 hk0 hB0 hb1 m0
  go_wp2_with fail
  refine (c2 _ hc1).mono ?_
  rintro e w2 ⟨rfl, hb2⟩
  have hc2 := keepB hb2 hc1
  have hk2 := keepK hb2 hk1
  have hB2 := below_next hB1 hb2 (Nat.le_refl _)
  clear c2 hc1 hk1 hB1 hb2
  go_wp2_with fail
  refine (c3 _ hc2).mono ?_
  rintro e w3 ⟨rfl, hb3⟩
  have hc3 := keepB hb3 hc2
  have hk3 := keepK hb3 hk2
  have hB3 := below_next hB2 hb3 (Nat.le_refl _)
  clear c3 hc2 hk2 hB2 hb3
  go_wp2_with fail
  refine (c4 _ hc3).mono ?_
  rintro e w4 ⟨rfl, hb4⟩
  have hk4 := keepK hb4 hk3
  have hB4 := below_next hB3 hb4 (Nat.le_refl _)
  clear c4 hc3 hk3 hB3 hb4
  have t0 : w4.cell? ⟨w.heap.size + 1, 0, none⟩ = some (.bool false) := hk4.cell rfl
  have t1 : w4.cell? ⟨w.heap.size + 1, 1, none⟩ = some (.bool false) := hk4.cell rfl
  have t2 : w4.cell? ⟨w.heap.size + 1, 2, none⟩ = some (.bool false) := hk4.cell rfl
  have t3 : w4.cell? ⟨w.heap.size + 1, 3, none⟩ = some (.bool false) := hk4.cell rfl
  have g0 := hk4.frozen 0
  have g1 := hk4.frozen 1
  have g2 := hk4.frozen 2
  have g3 := hk4.frozen 3
  have k5 := (((hk4.set 0 (.bool (fldA o))).set 1 (.bool (fldB o))).set 2 (.bool (fldC o))).set 3 (.bool (fldK o))
  have q0 := k5.cell (k := 0) rfl
  have q1 := k5.cell (k := 1) rfl
  have q2 := k5.cell (k := 2) rfl
  have q3 := k5.cell (k := 3) rfl
  have hfin : Below w.heap.size w ((((w4.setCell ⟨w.heap.size + 1, 0, none⟩ (.bool (fldA o))).setCell ⟨w.heap.size + 1, 1, none⟩ (.bool (fldB o))).setCell ⟨w.heap.size + 1, 2, none⟩ (.bool (fldC o))).setCell ⟨w.heap.size + 1, 3, none⟩ (.bool (fldK o))) := (((hB4.setCell (p := ⟨w.heap.size + 1, 0, none⟩) (by simp) _).setCell (p := ⟨w.heap.size + 1, 1, none⟩) (by simp) _).setCell (p := ⟨w.heap.size + 1, 2, none⟩) (by simp) _).setCell (p := ⟨w.heap.size + 1, 3, none⟩) (by simp) _
  clear k5 hk4 hB4
  go_wp2_with fail
  refine bodyPost_ret (v := fldV o) (by simp [results, Tryz.f76, go_sem, q0, q1, q2, q3, fldV]) rfl ⟨rfl, hfin⟩
end Go.Proofs.YtakgcienodigpaaGreat
