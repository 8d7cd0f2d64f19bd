/-
  The walks of pool.Len, Free, has, Of.
-/
import Derived.Test.YtmllalmdaobboaaPMath
namespace Go.Proofs.Ytmllalmdaobboaa
open Go.RowKit

theorem plen_any {B V cap : Nat} {l : List Slo} {f n : Nat} (w : World) (h : Pol w B V cap l f n) :
    Calls Try.prog 18 #[.pointer (some ⟨B, 0, none⟩)] w fun e w' => e = .returned (.int .i64 (n : Int)) ∧ w' = w := by
  have hc := h.cellN
  clear h
  go_enter Try.func18, Try.ntmps18
  go_wp2_with fail
  go_ret
  exact ⟨rfl, rfl⟩
theorem plen_nil (w : World) :
    Calls Try.prog 18 #[.pointer none] w fun e w' => e = .returned (.int .i64 0) ∧ w' = w := by
  go_enter Try.func18, Try.ntmps18
  go_wp2_with fail
  go_ret
  exact ⟨rfl, rfl⟩

theorem has_nil (i : Int) (w : World) :
    Calls Try.prog 23 #[.pointer none, .int .i64 i] w fun e w' => e = .returned (.bool false) ∧ w' = w := by
  go_enter Try.func23, Try.ntmps23
  go_wp2_with fail
  go_ret
  exact ⟨rfl, rfl⟩

theorem has_there {B V cap : Nat} {l : List Slo} {f n : Nat} (i : Nat) (s : Slo) (w : World) (h : Pol w B V cap l f n) (hi : l[i]? = some s) :
    Calls Try.prog 23 #[.pointer (some ⟨B, 0, none⟩), .int .i64 (i : Int)] w fun e w' => e = .returned (.bool s.1.isSome) ∧ w' = w := by
  have hlt : i < l.length := (List.getElem?_eq_some_iff.1 hi).1
  have hl := h.len
  have hc := h.cellS
  have hv : w.cell? ⟨V, i * 7, none⟩ = some (.bool s.1.isSome) := h.row.cell hi (j := 0) (by omega)
  have t1 : decide ((0 : Int) ≤ (i : Int)) = true := by simp
  have t2 : decide ((i : Int) < (l.length : Int)) = true := by simp; omega
  have t3 : (i : Int) < (l.length : Int) := by omega
  clear h hi
  go_enter Try.func23, Try.ntmps23
  go_wp2_with fail
  go_ret
  exact ⟨rfl, rfl⟩

theorem has_out {B V cap : Nat} {l : List Slo} {f n : Nat} (i : Int) (w : World) (h : Pol w B V cap l f n) (hi : i < 0 ∨ (l.length : Int) ≤ i) :
    Calls Try.prog 23 #[.pointer (some ⟨B, 0, none⟩), .int .i64 i] w fun e w' => e = .returned (.bool false) ∧ w' = w := by
  have hl := h.len
  have hc := h.cellS
  clear h
  rcases hi with hi | hi
  · have t1 : decide ((0 : Int) ≤ i) = false := by simp; omega
    have t2 : ¬ (0 : Int) ≤ i := by omega
    go_enter Try.func23, Try.ntmps23
    go_wp2_with fail
    go_ret
    exact ⟨rfl, rfl⟩
  · have t1 : decide ((0 : Int) ≤ i) = true := by simp; omega
    have t2 : (0 : Int) ≤ i := by omega
    have t3 : decide (i < (l.length : Int)) = false := by simp; omega
    have t4 : ¬ i < (l.length : Int) := by omega
    go_enter Try.func23, Try.ntmps23
    go_wp2_with fail
    go_ret
    exact ⟨rfl, rfl⟩

theorem free_any {B V cap : Nat} {l : List Slo} {f n : Nat} (w : World) (h : Pol w B V cap l f n) :
    Calls Try.prog 19 #[.pointer (some ⟨B, 0, none⟩)] w fun e w' => e = .returned (.int .i64 ((l.length : Int) - (n : Int))) ∧ ∃ m, w' = w.drewN m := by
  have hl := h.len
  have hn := h.cnt
  have hc := h.cellS
  have hd := h.cellN
  have hw : IntKind.i64.wrap ((l.length : Int) - (n : Int)) = (l.length : Int) - (n : Int) := by rw [IntKind.wrap_i64]; omega
  clear h
  go_enter Try.func19, Try.ntmps19
  go_wp2_with fail
  go_quiet (fail)
  go_wp2_with fail
  go_ret
  exact ⟨rfl, _, rfl⟩
theorem free_nil (w : World) :
    Calls Try.prog 19 #[.pointer none] w fun e w' => e = .returned (.int .i64 0) ∧ w' = w := by
  go_enter Try.func19, Try.ntmps19
  go_wp2_with fail
  go_ret
  exact ⟨rfl, rfl⟩

theorem of_there {B V cap : Nat} {l : List Slo} {f n : Nat} (i k : Nat) (x : Sud) (w : World) (h : Pol w B V cap l f n) (hi : l[i]? = some (some x, k)) :
    Calls Try.prog 15 #[.pointer (some ⟨B, 0, none⟩), .int .i64 (i : Int)] w fun e w' => e = .returned (.tuple #[sudA x, .bool true]) ∧ But [] w w' := by
  obtain ⟨a, b, c, d, e⟩ := x
  have hlt : i < l.length := (List.getElem?_eq_some_iff.1 hi).1
  have hl := h.len
  have hb0 : But [] w (w.alloc (.cells #[.int .i64 0, .int .i64 0, .bool false, .int .i64 0, .int .u64 0] 32)) := (But.refl _ _).alloc _
  have h1 := h.but hb0 (by simp) (by simp)
  have hcall := has_there i _ _ h1 hi
  have hc := h1.cellS
  have v1 := h1.row.cell hi (j := 1) (by omega)
  have v2 := h1.row.cell hi (j := 2) (by omega)
  have v3 := h1.row.cell hi (j := 3) (by omega)
  have v4 := h1.row.cell hi (j := 4) (by omega)
  have v5 := h1.row.cell hi (j := 5) (by omega)
  simp only [sloV, sudV, Option.getD_some, List.cons_append, List.nil_append, List.getElem?_cons_zero, List.getElem?_cons_succ] at v1 v2 v3 v4 v5
  simp only [Option.isSome_some] at hcall
  have t3 : (i : Int) < (l.length : Int) := by omega
  clear h h1 hi
  go_enter Try.func15, Try.ntmps15
  go_wp2_with fail
  refine hcall.mono ?_
  rintro e w' ⟨rfl, rfl⟩
  go_wp2_with fail
  exact bodyPost_ret (v := .tuple #[sudA (a, b, c, d, e), .bool true]) (by simp [results, Try.f15, go_sem, sudA]) rfl ⟨rfl, (But.refl _ _).alloc _⟩
theorem of_not {p : Option Addr} (i : Int) (w : World)
    (hcall : Calls Try.prog 23 #[.pointer p, .int .i64 i] (w.alloc (.cells #[.int .i64 0, .int .i64 0, .bool false, .int .i64 0, .int .u64 0] 32)) fun e w' => e = .returned (.bool false) ∧ w' = World.alloc w (.cells #[.int .i64 0, .int .i64 0, .bool false, .int .i64 0, .int .u64 0] 32)) :
    Calls Try.prog 15 #[.pointer p, .int .i64 i] w fun e w' => e = .returned (.tuple #[sudA zeroS, .bool false]) ∧ But [] w w' := by
  go_enter Try.func15, Try.ntmps15
  go_wp2_with fail
  refine hcall.mono ?_
  rintro e w' ⟨rfl, rfl⟩
  go_wp2_with fail
  exact bodyPost_ret (v := .tuple #[sudA zeroS, .bool false]) (by simp [results, Try.f15, go_sem, sudA, zeroS]) rfl ⟨rfl, (But.refl _ _).alloc _⟩
end Go.Proofs.Ytmllalmdaobboaa
