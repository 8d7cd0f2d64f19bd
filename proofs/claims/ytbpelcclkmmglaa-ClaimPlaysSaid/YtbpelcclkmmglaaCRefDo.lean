/-
  The walks of tollbarref04's Read, Write, Add.
-/
import Derived.Test.YtbpelcclkmmglaaCRef
namespace Go.Proofs.Ytbpelcclkmmglaa
open Go.RowKit

theorem u64_succ' (x : Nat) : IntKind.u64.wrap ((x : Int) + 1) = (up x : Int) := by
  rw [IntKind.wrap_u64]; unfold up; omega
theorem u64_plus' (x y : Nat) : IntKind.u64.wrap ((x : Int) + (y : Int)) = (plus x y : Int) := by
  rw [IntKind.wrap_u64]; unfold plus; omega

/-- What a call leaves that may set a cell. -/
def RefNow (w : World) (C g : Nat) (vs : List Nat) (n : Nat) (w' : World) : Prop := ∃ g', RefC w' C g' vs n ∧ (g' = g ∨ w.heap.size ≤ g') ∧ But [C] w w'

theorem rwrite_any {C g : Nat} {vs : List Nat} {n : Nat} (i : Int) (y : Nat) (w : World) (h : RefC w C g vs n) (h1 : -9223372036854775808 ≤ i) (h2 : i ≤ 9223372036854775807) (hy : y < 18446744073709551616) :
    Calls Try.prog 18 #[.pointer (some ⟨C, 0, none⟩), .int .i64 i, .int .u64 (y : Int)] w fun e w' => e = .returned (.tuple #[]) ∧ RefNow w C g (putAt vs i y) (countUp vs.length n i) w' := by
  have hcall := rhas_any i w h h1 h2
  have hl := h.len
  cases hi : inRow vs.length i with
  | true =>
    rw [countUp, if_pos hi, putAt, if_pos hi]
    obtain ⟨k, rfl, hk⟩ := inRow_nat hi
    rw [hi] at hcall
    rw [Int.toNat_natCast]
    have hN := h.cellN
    have hz := h.frozen 1
    have hw := u64_succ' n
    have h' := h.setN (m := up n) rfl (up_lt n)
    have hset := rset_any k y _ h' hk hy
    have hB : But [C] w (w.setCell ⟨C, 1, none⟩ (.int .u64 (up n : Int))) := (But.refl _ w).set (.inl (by simp)) _
    clear h hi
    go_enter Try.func18, Try.ntmps18
    go_wp2_with fail
    refine hcall.mono ?_
    rintro e w' ⟨rfl, rfl⟩
    go_wp2_with fail
    refine hset.mono ?_
    rintro e w2 ⟨rfl, g', hR, hg, hB2⟩
    go_wp2_with fail
    go_end0
    exact ⟨rfl, g', hR, .inr (Nat.le_trans hB.size hg), hB.next hB2⟩
  | false =>
    rw [countUp, hi, putAt, hi]
    rw [hi] at hcall
    have HR := h
    clear hi h
    go_enter Try.func18, Try.ntmps18
    go_wp2_with fail
    refine hcall.mono ?_
    rintro e w' ⟨rfl, rfl⟩
    go_wp2_with fail
    go_end0
    exact ⟨rfl, g, HR, .inl rfl, .refl _ _⟩

theorem radd_any {C g : Nat} {vs : List Nat} {n : Nat} (i : Int) (y : Nat) (w : World) (h : RefC w C g vs n) (h1 : -9223372036854775808 ≤ i) (h2 : i ≤ 9223372036854775807) :
    Calls Try.prog 28 #[.pointer (some ⟨C, 0, none⟩), .int .i64 i, .int .u64 (y : Int)] w fun e w' => e = .returned (.int .u64 (cellAt vs i : Int)) ∧ RefNow w C g (addAt vs i y) (countUp vs.length n i) w' := by
  have hcall := rhas_any i w h h1 h2
  have hl := h.len
  cases hi : inRow vs.length i with
  | true =>
    rw [countUp, if_pos hi, addAt, putAt, if_pos hi]
    obtain ⟨k, rfl, hk⟩ := inRow_nat hi
    rw [hi] at hcall
    rw [Int.toNat_natCast, cellAt_nat hk]
    have hN := h.cellN
    have hz := h.frozen 1
    have hw := u64_succ' n
    have hp := u64_plus' (nth vs k) y
    have h' := h.setN (m := up n) rfl (up_lt n)
    obtain ⟨cap, hc, hcap⟩ := h'.cellS
    have hv := h'.cellV hk
    have hset := rset_any k (plus (nth vs k) y) _ h' hk (plus_lt _ _)
    have hB : But [C] w (w.setCell ⟨C, 1, none⟩ (.int .u64 (up n : Int))) := (But.refl _ w).set (.inl (by simp)) _
    clear h hi
    go_enter Try.func28, Try.ntmps28
    go_wp2_with fail
    refine hcall.mono ?_
    rintro e w' ⟨rfl, rfl⟩
    go_wp2_with fail
    refine hset.mono ?_
    rintro e w2 ⟨rfl, g', hR, hg, hB2⟩
    go_wp2_with fail
    go_ret
    exact ⟨rfl, g', hR, .inr (Nat.le_trans hB.size hg), hB.next hB2⟩
  | false =>
    rw [countUp, hi, addAt, putAt, hi, cellAt_out hi]
    rw [hi] at hcall
    have HR := h
    clear hi h
    go_enter Try.func28, Try.ntmps28
    go_wp2_with fail
    refine hcall.mono ?_
    rintro e w' ⟨rfl, rfl⟩
    go_wp2_with fail
    go_ret
    exact ⟨rfl, g, HR, .inl rfl, .refl _ _⟩
end Go.Proofs.Ytbpelcclkmmglaa
