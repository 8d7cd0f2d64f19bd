/-
  The walks of pool.Take, Give.
-/
import Derived.Test.YtmllalmdaobboaaPBase
namespace Go.Proofs.Ytmllalmdaobboaa
open Go.RowKit

theorem take_nil (x : Sud) (w : World) :
    Calls Try.prog 10 #[.pointer none, sudA x] w fun e w' => e = .returned (.tuple #[.int .i64 0, .int .i64 1]) ∧ But [] w w' := by
  obtain ⟨a, b, c, d, e⟩ := x
  unfold sudA
  go_enter Try.func10, Try.ntmps10
  go_wp2_with fail
  go_ret2
  exact ⟨rfl, (But.refl _ _).alloc _⟩

theorem take_full {B V cap : Nat} {l : List Slo} {f n : Nat} (x : Sud) (w : World) (h : Pol w B V cap l f n) (hf : f = l.length) :
    Calls Try.prog 10 #[.pointer (some ⟨B, 0, none⟩), sudA x] w fun e w' => e = .returned (.tuple #[.int .i64 0, .int .i64 4]) ∧ But [] w w' := by
  obtain ⟨a, b, c, d, e⟩ := x
  have hl := h.len
  have hb0 : But [] w (w.alloc (.cells (sudV (a, b, c, d, e)).toArray 32)) := (But.refl _ _).alloc _
  have h1 := h.but hb0 (by simp) (by simp)
  have hc := h1.cellS
  have hd := h1.cellF
  have ht : ((f : Int) == (l.length : Int)) = true := by simp; omega
  simp only [sudV] at hc hd
  clear h h1
  unfold sudA
  go_enter Try.func10, Try.ntmps10
  go_wp2_with fail
  go_quiet (fail)
  go_wp2_with fail
  go_ret2
  exact ⟨rfl, ((But.refl _ _).alloc _).drewN _⟩

set_option maxHeartbeats 600000 in
theorem take_some {B V cap : Nat} {l : List Slo} {f k n : Nat} (x : Sud) (w : World) (h : Pol w B V cap l f n) (hf : l[f]? = some (none, k)) (hk : k ≤ l.length) (hn : n < l.length) :
    Calls Try.prog 10 #[.pointer (some ⟨B, 0, none⟩), sudA x] w fun e w' => e = .returned (.tuple #[.int .i64 (f : Int), .int .i64 0]) ∧ Pol w' B V cap (l.set f (some x, 0)) k (n + 1) ∧ But [B, V] w w' := by
  obtain ⟨a, b, c, d, e⟩ := x
  have hl := h.len
  have hlt : f < l.length := (List.getElem?_eq_some_iff.1 hf).1
  have hb0 : But [] w (w.alloc (.cells (sudV (a, b, c, d, e)).toArray 32)) := (But.refl _ _).alloc _
  have h1 := h.but hb0 (by simp) (by simp)
  have hBs := h.ltB
  have hVs := h.ltV
  have hne := h.ne
  have hc := h1.cellS
  have hd := h1.cellF
  have hN := h1.cellN
  have v0 : World.cell? _ ⟨V, f * 7, none⟩ = _ := h1.row.cell hf (j := 0) (by omega)
  have v1 := h1.row.cell hf (j := 1) (by omega)
  have v2 := h1.row.cell hf (j := 2) (by omega)
  have v3 := h1.row.cell hf (j := 3) (by omega)
  have v4 := h1.row.cell hf (j := 4) (by omega)
  have v5 := h1.row.cell hf (j := 5) (by omega)
  have v6 := h1.row.cell hf (j := 6) (by omega)
  have zB1 := h1.frozenB 1
  have zB2 := h1.frozenB 2
  have zV0 := h1.row.frozen (f * 7)
  have zV1 := h1.row.frozen (f * 7 + 1)
  have zV2 := h1.row.frozen (f * 7 + 2)
  have zV3 := h1.row.frozen (f * 7 + 3)
  have zV4 := h1.row.frozen (f * 7 + 4)
  have zV5 := h1.row.frozen (f * 7 + 5)
  have zV6 := h1.row.frozen (f * 7 + 6)
  have ht : ((f : Int) == (l.length : Int)) = false := by simp; omega
  have t3 : (f : Int) < (l.length : Int) := by omega
  simp only [sudV, sloV, List.cons_append, List.nil_append, List.getElem?_cons_zero, List.getElem?_cons_succ] at hc hd hN v0 v1 v2 v3 v4 v5 v6 zB1 zB2 zV0 zV1 zV2 zV3 zV4 zV5 zV6
  have H1 := Lib.hid h1
  clear h1 hf h
  unfold sudA
  go_enter Try.func10, Try.ntmps10
  go_wp2_with fail
  go_quiet (fail)
  go_wp2_with fail
  go_region
  go_wp2_with fail
  go_ret2
  refine ⟨rfl, ((((H1.out.drewN nq).setF rfl hk).setSlot7 hlt (some (a, b, c, d, e), 0) rfl rfl rfl rfl).setN (by omega) (by rw [List.length_set]; omega)).drew, ?_⟩
  exact (((((hb0.mono (by simp)).drewN nq).set (p := ⟨B, 1, none⟩) (.inl (by simp)) _).set7 (.inl (by simp)) _ _ _ _ _ _ _).set (p := ⟨B, 2, none⟩) (.inl (by simp)) _).drew

theorem give_nil (i : Int) (w : World) :
    Calls Try.prog 12 #[.pointer none, .int .i64 i] w fun e w' => e = .returned (.int .i64 1) ∧ w' = w := by
  go_enter Try.func12, Try.ntmps12
  go_wp2_with fail
  go_ret
  exact ⟨rfl, rfl⟩

theorem give_not {B : Nat} (i : Int) (w : World)
    (hcall : Calls Try.prog 23 #[.pointer (some ⟨B, 0, none⟩), .int .i64 i] w fun e w' => e = .returned (.bool false) ∧ w' = w) :
    Calls Try.prog 12 #[.pointer (some ⟨B, 0, none⟩), .int .i64 i] w fun e w' => e = .returned (.int .i64 3) ∧ w' = w := by
  go_enter Try.func12, Try.ntmps12
  go_wp2_with fail
  refine hcall.mono ?_
  rintro e w' ⟨rfl, rfl⟩
  go_wp2_with fail
  go_ret
  exact ⟨rfl, rfl⟩

set_option maxHeartbeats 600000 in
theorem give_there {B V cap : Nat} {l : List Slo} {f k i n : Nat} (x : Sud) (w : World) (h : Pol w B V cap l f n) (hi : l[i]? = some (some x, k)) (hn : 0 < n) :
    Calls Try.prog 12 #[.pointer (some ⟨B, 0, none⟩), .int .i64 (i : Int)] w fun e w' => e = .returned (.int .i64 0) ∧ Pol w' B V cap (l.set i (none, f)) i (n - 1) ∧ But [B, V] w w' := by
  obtain ⟨a, b, c, d, e⟩ := x
  have hl := h.len
  have hlt : i < l.length := (List.getElem?_eq_some_iff.1 hi).1
  have hcall := has_there i _ w h hi
  simp only [Option.isSome_some] at hcall
  have hBs := h.ltB
  have hVs := h.ltV
  have hne := h.ne
  have hf := h.first
  have hnl := h.cnt
  have hc := h.cellS
  have hd := h.cellF
  have hN := h.cellN
  have v0 : World.cell? _ ⟨V, i * 7, none⟩ = _ := h.row.cell hi (j := 0) (by omega)
  have v1 := h.row.cell hi (j := 1) (by omega)
  have v2 := h.row.cell hi (j := 2) (by omega)
  have v3 := h.row.cell hi (j := 3) (by omega)
  have v4 := h.row.cell hi (j := 4) (by omega)
  have v5 := h.row.cell hi (j := 5) (by omega)
  have v6 := h.row.cell hi (j := 6) (by omega)
  have zB1 := h.frozenB 1
  have zB2 := h.frozenB 2
  have zV0 := h.row.frozen (i * 7)
  have zV1 := h.row.frozen (i * 7 + 1)
  have zV2 := h.row.frozen (i * 7 + 2)
  have zV3 := h.row.frozen (i * 7 + 3)
  have zV4 := h.row.frozen (i * 7 + 4)
  have zV5 := h.row.frozen (i * 7 + 5)
  have zV6 := h.row.frozen (i * 7 + 6)
  have t3 : (i : Int) < (l.length : Int) := by omega
  simp only [sudV, sloV, List.cons_append, List.nil_append, List.getElem?_cons_zero, List.getElem?_cons_succ, Option.getD_some] at v0 v1 v2 v3 v4 v5 v6
  have hw : IntKind.i64.wrap ((n : Int) - 1) = ((n - 1 : Nat) : Int) := by rw [IntKind.wrap_i64]; omega
  have H1 := Lib.hid h
  clear h hi
  go_enter Try.func12, Try.ntmps12
  go_wp2_with fail
  refine hcall.mono ?_
  rintro e w' ⟨rfl, rfl⟩
  go_wp2_with fail
  go_region
  go_wp2_with fail
  go_ret
  refine ⟨rfl, (((H1.out.setSlot7 hlt (none, f) rfl rfl rfl rfl).setF rfl (by rw [List.length_set]; omega)).setN (k := n - 1) (by omega) (by rw [List.length_set]; omega)).drew, ?_⟩
  exact ((((But.refl [B, V] _).set7 (.inl (by simp)) _ _ _ _ _ _ _).set (p := ⟨B, 1, none⟩) (.inl (by simp)) _).set (p := ⟨B, 2, none⟩) (.inl (by simp)) _).drew
end Go.Proofs.Ytmllalmdaobboaa
