/-
  The walks of cell.Read, Write, Add.
-/
import Derived.Test.YtbjfongjdlankaaCAcc
namespace Go.Proofs.Ytbjfongjdlankaa
open Go.RowKit

theorem cell_read {B V : Nat} {vs : List Nat} {n : Nat} (i : Int) (w : World) (h : Cels w B V vs n) (h1 : -9223372036854775808 ≤ i) (h2 : i ≤ 9223372036854775807) :
    Calls Try.prog 47 #[.pointer (some ⟨B, 0, none⟩), .int .i64 i] w fun e w' => e = .returned (.int .u64 (cellAt vs i : Int)) ∧ Cels w' B V vs (countUp vs.length n i) ∧ But [B, V] w w' := by
  have hx := (Boxed.new w 33 (.int .u64 0))
  have hg := But.of_none (World.grownBy_alloc w (.cells #[.int .u64 0] 33) none) []
  have hx' := h.but hg (by simp) (by simp)
  have hlB := h.ltB
  have hlV := h.ltV
  have hRB : w.heap.size ≠ B := by omega
  have hRV : w.heap.size ≠ V := by omega
  cases hin : inRow vs.length i with
  | true =>
    obtain ⟨k, rfl, hk⟩ := inRow_nat hin
    rw [cellAt_nat hk, countUp, if_pos hin]
    clear h hin
    go_enter Try.func47, Try.ntmps47
    go_wp2_with fail
    refine (access_read k _ hx' hk hx hRB hRV).mono ?_
    rintro e w1 ⟨rfl, hC, hb, hr⟩
    have hc := hr.cell
    have hf := hr.frozen
    clear hx hx'
    go_wp2_with fail
    refine bodyPost_ret (v := .int .u64 (nth vs k : Int)) (by simp [results, Try.f47, go_sem, hc]) rfl ⟨rfl, ?_, ?_⟩
    · exact hC.but ((But.refl [w.heap.size] _).set (.inl (by simp)) _) (by simpa using hRB.symm) (by simpa using hRV.symm)
    · exact ((hg.mono (by simp)).trans (hb.mono (T := [B, w.heap.size, V]) (by simp)) (by simp)).set (.inr (Nat.le_refl _)) _
  | false =>
    rw [cellAt_out hin, countUp, if_neg (by simp [hin])]
    have hc := hx.cell
    have hf := hx.frozen
    clear h
    go_enter Try.func47, Try.ntmps47
    go_wp2_with fail
    refine (access_out i _ _ hx' h1 h2 hin).mono ?_
    rintro e w1 ⟨rfl, rfl⟩
    go_wp2_with fail
    refine bodyPost_ret (v := .int .u64 0) (by simp [results, Try.f47, go_sem, hc]) rfl ⟨rfl, hx', hg.mono (by simp)⟩

theorem cell_add {B V : Nat} {vs : List Nat} {n : Nat} (i : Int) (y : Nat) (w : World) (h : Cels w B V vs n) (h1 : -9223372036854775808 ≤ i) (h2 : i ≤ 9223372036854775807) :
    Calls Try.prog 46 #[.pointer (some ⟨B, 0, none⟩), .int .i64 i, .int .u64 (y : Int)] w fun e w' => e = .returned (.int .u64 (cellAt vs i : Int)) ∧ Cels w' B V (addAt vs i y) (countUp vs.length n i) ∧ But [B, V] w w' := by
  have hd0 := (Boxed.new w 33 (.int .u64 (y : Int)))
  have hg0 := But.of_none (World.grownBy_alloc w (.cells #[.int .u64 (y : Int)] 33) none) []
  have hx0 := h.but hg0 (by simp) (by simp)
  have hlB := h.ltB
  have hlV := h.ltV
  have hr := Boxed.new (w.alloc (.cells #[.int .u64 (y : Int)] 33)) 33 (.int .u64 0)
  have hg1 := But.of_none (World.grownBy_alloc (w.alloc (.cells #[.int .u64 (y : Int)] 33)) (.cells #[.int .u64 0] 33) none) []
  have hx' := hx0.but hg1 (by simp) (by simp)
  have hd := hg1.boxed hd0 (by simp)
  have hg := hg0.next hg1
  rw [World.size_alloc] at hr
  clear hd0 hg0 hx0 hg1
  have hDB : w.heap.size ≠ B := by omega
  have hRB : w.heap.size + 1 ≠ B := by omega
  have hRV : w.heap.size + 1 ≠ V := by omega
  have hRD : w.heap.size + 1 ≠ w.heap.size := by omega
  cases hin : inRow vs.length i with
  | true =>
    obtain ⟨k, rfl, hk⟩ := inRow_nat hin
    rw [addAt, putAt, if_pos hin, countUp, if_pos hin, cellAt_nat hk, Int.toNat_natCast]
    clear h hin
    go_enter Try.func46, Try.ntmps46
    go_wp2_with fail
    refine (access_add k _ hx' hk hr hd hRD hRB hRV hDB).mono ?_
    rintro e w1 ⟨rfl, hC, hb, hr1⟩
    have hc := hr1.cell
    have hf := hr1.frozen
    clear hx' hr hd
    go_wp2_with fail
    refine bodyPost_ret (v := .int .u64 (nth vs k : Int)) (by simp [results, Try.f46, go_sem, hc]) rfl ⟨rfl, ?_, ?_⟩
    · exact hC.but ((But.refl [w.heap.size + 1] _).set (.inl (by simp)) _) (by simpa using hRB.symm) (by simpa using hRV.symm)
    · exact ((hg.mono (by simp)).trans hb (by simp; omega)).set (.inr (Nat.le_succ _)) _
  | false =>
    rw [cellAt_out hin, addAt, putAt, if_neg (by simp [hin]), countUp, if_neg (by simp [hin])]
    have hc := hr.cell
    have hf := hr.frozen
    clear h hd
    go_enter Try.func46, Try.ntmps46
    go_wp2_with fail
    refine (access_out i _ _ hx' h1 h2 hin).mono ?_
    rintro e w1 ⟨rfl, rfl⟩
    go_wp2_with fail
    refine bodyPost_ret (v := .int .u64 0) (by simp [results, Try.f46, go_sem, hc]) rfl ⟨rfl, hx', hg.mono (by simp)⟩
end Go.Proofs.Ytbjfongjdlankaa
