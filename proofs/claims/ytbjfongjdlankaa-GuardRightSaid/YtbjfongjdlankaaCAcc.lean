/-
  The walks of cell.access, Read, Write, Add and their closures.
-/
import Derived.Test.YtbjfongjdlankaaCBase
namespace Go.Proofs.Ytbjfongjdlankaa
open Go.RowKit

theorem u64_nat (x y : Nat) : IntKind.u64.wrap ((x : Int) + (y : Int)) = (plus x y : Int) := by
  rw [IntKind.wrap_u64]; unfold plus; omega

theorem u64_succ (x : Nat) : IntKind.u64.wrap ((x : Int) + 1) = (up x : Int) := by
  rw [IntKind.wrap_u64]; unfold up; omega

theorem read1_any {V i R : Nat} {x : Int} (w : World) (hv : w.cell? ⟨V, i, none⟩ = some (.int .u64 x)) (hb : Boxed w R 33 (.int .u64 0)) :
    Calls Try.prog 54 #[.pointer (some ⟨V, i, none⟩), .pointer (some ⟨R, 0, none⟩)] w fun e w' => e = .returned (.tuple #[]) ∧ w' = w.setCell ⟨R, 0, none⟩ (.int .u64 x) := by
  have hf := hb.frozen
  have hc := hb.cell
  clear hb
  go_enter Try.func54, Try.ntmps54
  go_wp2_with fail
  go_end0
  exact ⟨rfl, rfl⟩
theorem add1_any {V i R D : Nat} {x y : Nat} (w : World) (hv : w.cell? ⟨V, i, none⟩ = some (.int .u64 (x : Int))) (hz : w.frozen? ⟨V, i, none⟩ = false) (hb : Boxed w D 33 (.int .u64 (y : Int))) (hr : Boxed w R 33 (.int .u64 0)) (hVR : V ≠ R) (hRD : R ≠ D) :
    Calls Try.prog 53 #[.pointer (some ⟨V, i, none⟩), .pointer (some ⟨R, 0, none⟩), .pointer (some ⟨D, 0, none⟩)] w fun e w' => e = .returned (.tuple #[]) ∧ w' = ((w.setCell ⟨R, 0, none⟩ (.int .u64 (x : Int))).setCell ⟨V, i, none⟩ (.int .u64 (plus x y : Int))).drew := by
  have hc := hb.cell
  have hc1 := hr.cell
  have hf1 := hr.frozen
  have hDR : D ≠ R := hRD.symm
  have hRV := hVR.symm
  clear hb hr
  go_enter Try.func53, Try.ntmps53
  go_wp2_with fail
  go_region
  go_wp2_with fail
  go_end0
  exact ⟨rfl, by rw [u64_nat]⟩

/-- Nothing is done to a cell that is not there. -/
theorem access_out {B V : Nat} {vs : List Nat} {n : Nat} (i : Int) (f : Value) (w : World) (h : Cels w B V vs n) (h1 : -9223372036854775808 ≤ i) (h2 : i ≤ 9223372036854775807) (hi : inRow vs.length i = false) :
    Calls Try.prog 52 #[.pointer (some ⟨B, 0, none⟩), .int .i64 i, f] w fun e w' => e = .returned (.tuple #[]) ∧ w' = w := by
  have hcall := has_any i w h h1 h2
  rw [hi] at hcall
  clear h hi
  go_enter Try.func52, Try.ntmps52
  go_wp2_with (go_at_call 58; refine hcall.mono ?_; rintro e w' ⟨rfl, rfl⟩)
  go_end0
  exact ⟨rfl, rfl⟩
theorem access_read {B V R : Nat} {vs : List Nat} {n : Nat} (i : Nat) (w : World) (h : Cels w B V vs n) (hi : i < vs.length) (hb : Boxed w R 33 (.int .u64 0)) (hRB : R ≠ B) (hRV : R ≠ V) :
    Calls Try.prog 52 #[.pointer (some ⟨B, 0, none⟩), .int .i64 (i : Int), .func (.func 54) #[] #[.pointer (some ⟨R, 0, none⟩)]] w fun e w' => e = .returned (.tuple #[]) ∧ Cels w' B V vs (up n) ∧ But [B, R] w w' ∧ Boxed w' R 33 (.int .u64 (nth vs i : Int)) := by
  have hcall := has_any (i : Int) w h (by omega) (by have := h.len; omega)
  rw [show inRow vs.length (i : Int) = true from decide_eq_true (by omega)] at hcall
  have hl := h.len
  have hN := h.cellN
  have hS := h.cellS
  have hz := h.frozenB 1
  have hw := u64_succ n
  have h' := h.setN rfl (up_lt n)
  have hB' : But [B] w (w.setCell ⟨B, 1, none⟩ (.int .u64 (up n : Int))) := (But.refl _ w).set (.inl (by simp)) _
  have hbx := hB'.boxed hb (by simpa using hRB)
  have hv' := h'.cellV hi
  clear h
  go_enter Try.func52, Try.ntmps52
  go_wp2_with (go_at_call 58; refine hcall.mono ?_; rintro e w' ⟨rfl, rfl⟩)
  refine (read1_any _ hv' hbx).mono ?_
  rintro e w2 ⟨rfl, rfl⟩
  go_wp2_with fail
  go_end0
  exact ⟨rfl, h'.but ((But.refl [R] _).set (.inl (by simp)) _) (by simpa using hRB.symm) (by simpa using hRV.symm), (hB'.mono (by simp)).set (.inl (by simp)) _, hbx.set _⟩
theorem access_add {B V R D : Nat} {vs : List Nat} {n y : Nat} (i : Nat) (w : World) (h : Cels w B V vs n) (hi : i < vs.length) (hr : Boxed w R 33 (.int .u64 0)) (hb : Boxed w D 33 (.int .u64 (y : Int))) (hRD : R ≠ D) (hRB : R ≠ B) (hRV : R ≠ V) (hDB : D ≠ B) :
    Calls Try.prog 52 #[.pointer (some ⟨B, 0, none⟩), .int .i64 (i : Int), .func (.func 53) #[] #[.pointer (some ⟨R, 0, none⟩), .pointer (some ⟨D, 0, none⟩)]] w fun e w' => e = .returned (.tuple #[]) ∧ Cels w' B V (vs.set i (plus (nth vs i) y)) (up n) ∧ But [B, V, R] w w' ∧ Boxed w' R 33 (.int .u64 (nth vs i : Int)) := by
  have hcall := has_any (i : Int) w h (by omega) (by have := h.len; omega)
  rw [show inRow vs.length (i : Int) = true from decide_eq_true (by omega)] at hcall
  have hl := h.len
  have hN := h.cellN
  have hS := h.cellS
  have hz := h.frozenB 1
  have hw := u64_succ n
  have h' := h.setN rfl (up_lt n)
  have hB' : But [B] w (w.setCell ⟨B, 1, none⟩ (.int .u64 (up n : Int))) := (But.refl _ w).set (.inl (by simp)) _
  have hbx := hB'.boxed hb (by simpa using hDB)
  have hrx := hB'.boxed hr (by simpa using hRB)
  have hv' := h'.cellV hi
  have hz' := h'.frozenV i
  have hVR := hRV.symm
  clear h
  go_enter Try.func52, Try.ntmps52
  go_wp2_with (go_at_call 58; refine hcall.mono ?_; rintro e w' ⟨rfl, rfl⟩)
  refine (add1_any _ hv' hz' hbx hrx hVR hRD).mono ?_
  rintro e w2 ⟨rfl, rfl⟩
  go_wp2_with fail
  go_end0
  have g1 : But [R] _ _ := (But.refl [R] (w'.setCell ⟨B, 1, none⟩ (.int .u64 (up n : Int)))).set (p := ⟨R, 0, none⟩) (.inl (by simp)) (.int .u64 (nth vs i : Int))
  have h2 := h'.but g1 (by simpa using hRB.symm) (by simpa using hRV.symm)
  refine ⟨rfl, (h2.setV i rfl (plus_lt _ _)).drew, ?_, ?_⟩
  · exact ((((hB'.mono (by simp)).set (p := ⟨R, 0, none⟩) (.inl (by simp)) _)).set (.inl (by simp)) _).drew
  · exact (((But.refl [V] _).set (p := ⟨V, i, none⟩) (.inl (by simp)) _).drew).boxed (hrx.set _) (by simpa using hRV)
end Go.Proofs.Ytbjfongjdlankaa
